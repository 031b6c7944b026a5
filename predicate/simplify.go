package predicate

import (
	"bitemporal/api"
	"bitemporal/expr"
	"bitemporal/value"
)

// Simplify returns a simpler expression with the same value for every row.
func Simplify(e api.Expr) api.Expr {
	if !isWellFormed(e) {
		return constant(value.Null())
	}
	args := make([]api.Expr, len(e.Args))
	areConstant := e.Op != api.OpColumn
	for i, a := range e.Args {
		args[i] = Simplify(a)
		areConstant = areConstant && args[i].Op == api.OpConst
	}
	e.Args = args
	if areConstant {
		return constant(expr.Eval(e, nil))
	}
	switch e.Op {
	case api.OpAnd, api.OpOr:
		return simpleJunction(e)
	case api.OpNot:
		return simpleNegation(e)
	case api.OpIf:
		return simpleChoice(e)
	case api.OpCoalesce:
		return simpleCoalesce(e)
	}
	return e
}

// simpleJunction leaves out the arguments of a conjunction or disjunction that do not matter. At least one argument is not a constant.
func simpleJunction(e api.Expr) api.Expr {
	neutral := api.True
	if e.Op == api.OpOr {
		neutral = api.False
	}
	var rest []api.Expr
	for _, a := range e.Args {
		if a.Op != api.OpConst {
			rest = append(rest, a)
			continue
		}
		switch expr.Truth(a, nil) {
		case value.Not(neutral):
			return constant(value.Of(value.Not(neutral)))
		case api.Unknown:
			rest = append(rest, a)
		}
	}
	if len(rest) == 1 && isTruth(rest[0].Op) {
		return rest[0]
	}
	if len(rest) == 1 {
		// Alone, the argument could have a value that is neither a boolean nor a null.
		rest = append(rest, constant(value.Of(neutral)))
	}
	e.Args = rest
	return e
}

// simpleNegation negates a comparison within, and removes a second negation.
func simpleNegation(e api.Expr) api.Expr {
	a := e.Args[0]
	switch a.Op {
	case api.OpNot:
		if inner := a.Args[0]; isTruth(inner.Op) {
			return inner
		}
	case api.OpEq, api.OpNe, api.OpLt, api.OpLe, api.OpGt, api.OpGe:
		a.Op = opposite(a.Op)
		return a
	}
	return e
}

// opposite returns the comparison that is the negation of another one.
func opposite(op int) int {
	switch op {
	case api.OpEq:
		return api.OpNe
	case api.OpNe:
		return api.OpEq
	case api.OpLt:
		return api.OpGe
	case api.OpGe:
		return api.OpLt
	case api.OpGt:
		return api.OpLe
	}
	return api.OpGt
}

// simpleChoice decides a constant condition.
func simpleChoice(e api.Expr) api.Expr {
	condition := e.Args[0]
	switch {
	case condition.Op != api.OpConst:
		return e
	case expr.Truth(condition, nil) == api.True:
		return e.Args[1]
	}
	return e.Args[2]
}

// simpleCoalesce leaves out nulls, and what follows a constant. At least one argument is not a constant, and a single one is the value.
func simpleCoalesce(e api.Expr) api.Expr {
	var rest []api.Expr
	for _, a := range e.Args {
		if a.Op == api.OpConst && a.Value == value.Null() {
			continue
		}
		rest = append(rest, a)
		if a.Op == api.OpConst {
			break
		}
	}
	if len(rest) == 1 {
		return rest[0]
	}
	e.Args = rest
	return e
}

// isTruth reports whether the value of a well-formed expression with this operator is always a boolean or a null.
func isTruth(op int) bool {
	switch op {
	case api.OpNot, api.OpAnd, api.OpOr, api.OpEq, api.OpNe, api.OpLt, api.OpLe, api.OpGt, api.OpGe, api.OpIsNull, api.OpAllen:
		return true
	}
	return false
}
