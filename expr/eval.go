package expr

import (
	"bitemporal/allen"
	"bitemporal/api"
	"bitemporal/value"
)

// argument returns the value of the argument with an index. No argument is asked for twice, as that would double the time with each level.
type argument func(i int) api.Value

// Eval returns the value of an expression for a row.
func Eval(e api.Expr, row []api.Value) api.Value {
	if !isWellFormed(e) {
		return value.Null()
	}
	arg := func(i int) api.Value { return Eval(e.Args[i], row) }
	switch e.Op {
	case api.OpConst:
		return e.Value
	case api.OpColumn:
		return column(row, e.Int)
	case api.OpNot, api.OpAnd, api.OpOr:
		return value.Of(logic(e, arg))
	case api.OpEq, api.OpNe, api.OpLt, api.OpLe, api.OpGt, api.OpGe:
		return value.Of(comparison(e.Op, arg(0), arg(1)))
	case api.OpAdd, api.OpSub, api.OpMul, api.OpDiv, api.OpMod:
		return arithmetic(e.Op, arg(0), arg(1))
	case api.OpNeg:
		return arithmetic(api.OpSub, value.Int(0), arg(0))
	case api.OpConcat:
		return concat(arg(0), arg(1))
	case api.OpLength:
		return length(arg(0))
	case api.OpIsNull:
		return value.Bool(isNull(arg(0)))
	case api.OpIf:
		if value.Truth(arg(0)) == api.True {
			return arg(1)
		}
		return arg(2)
	case api.OpCoalesce:
		return firstKnown(len(e.Args), arg)
	}
	return related(e.Int, arg)
}

// Truth returns the truth value of an expression for a row.
func Truth(e api.Expr, row []api.Value) int { return value.Truth(Eval(e, row)) }

// column returns the value of a column, or a null if there is no valid one.
func column(row []api.Value, i int) api.Value {
	if !isIndex(i, len(row)) || !value.Valid(row[i]) {
		return value.Null()
	}
	return row[i]
}

// logic returns the truth value of a negation, a conjunction or a disjunction.
func logic(e api.Expr, arg argument) int {
	result := value.Truth(arg(0))
	if e.Op == api.OpNot {
		return value.Not(result)
	}
	combine := value.And
	if e.Op == api.OpOr {
		combine = value.Or
	}
	for i := 1; i < len(e.Args); i++ {
		result = combine(result, value.Truth(arg(i)))
	}
	return result
}

// comparison returns the truth value of a comparison.
func comparison(op int, a, b api.Value) int {
	switch op {
	case api.OpEq:
		return value.Equal(a, b)
	case api.OpNe:
		return value.Not(value.Equal(a, b))
	case api.OpGt:
		a, b = b, a
		fallthrough
	case api.OpLt:
		return value.Less(a, b)
	case api.OpLe:
		a, b = b, a
	}
	return value.Not(value.Less(a, b))
}

// arithmetic returns the result of an operation on two integers, or a null.
func arithmetic(op int, a, b api.Value) api.Value {
	if a.Kind != api.KindInt || b.Kind != api.KindInt {
		return value.Null()
	}
	x, y := a.Int, b.Int
	switch op {
	case api.OpSub:
		y = -y
		fallthrough
	case api.OpAdd:
		return value.Int(x + y)
	case api.OpMul:
		return product(x, y)
	}
	if y == 0 {
		return value.Null()
	}
	if op == api.OpDiv {
		return value.Int(x / y)
	}
	return value.Int(x % y)
}

// product returns the product of two integers, or a null if it is out of range, which the int that results does not always show.
func product(x, y int) api.Value {
	if x != 0 && max(y, -y) > api.MaxNumber/max(x, -x) {
		return value.Null()
	}
	return value.Int(x * y)
}

func concat(a, b api.Value) api.Value {
	if a.Kind != api.KindText || b.Kind != api.KindText {
		return value.Null()
	}
	return value.Text(a.Text + b.Text)
}

func length(v api.Value) api.Value {
	if v.Kind != api.KindText {
		return value.Null()
	}
	return value.Int(len(v.Text))
}

func isNull(v api.Value) bool { return v.Kind == api.KindNull }

// firstKnown returns the first of n arguments that is not a null, or a null.
func firstKnown(n int, arg argument) api.Value {
	for i := range n {
		if v := arg(i); !isNull(v) {
			return v
		}
	}
	return value.Null()
}

// related returns whether a relation holds between the periods of four arguments, or a null if these are not two periods.
func related(rel int, arg argument) api.Value {
	var bounds [4]int
	for i := range bounds {
		v := arg(i)
		if v.Kind != api.KindInt {
			return value.Null()
		}
		bounds[i] = v.Int
	}
	actual, valid := allen.Relation(api.Period{From: bounds[0], To: bounds[1]}, api.Period{From: bounds[2], To: bounds[3]})
	if !valid {
		return value.Null()
	}
	return value.Bool(actual == rel)
}
