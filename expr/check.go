package expr

import (
	"math"

	"bitemporal/api"
	"bitemporal/value"
)

const many = math.MaxInt

// shape is what an operator demands: the least and the greatest number of arguments, their kind (KindNull: equal ones of any kind), and the kind of the result (KindNull: that of the arguments).
type shape struct{ least, most, args, result int }

// shapeOf returns the shape of an operator, and whether there is such an operator. That of OpIf does not show its condition.
func shapeOf(op int) (shape, bool) {
	switch op {
	case api.OpConst, api.OpColumn:
		return shape{}, true
	case api.OpNot:
		return shape{1, 1, api.KindBool, api.KindBool}, true
	case api.OpAnd, api.OpOr:
		return shape{2, many, api.KindBool, api.KindBool}, true
	case api.OpEq, api.OpNe, api.OpLt, api.OpLe, api.OpGt, api.OpGe:
		return shape{2, 2, api.KindNull, api.KindBool}, true
	case api.OpAdd, api.OpSub, api.OpMul, api.OpDiv, api.OpMod:
		return shape{2, 2, api.KindInt, api.KindInt}, true
	case api.OpNeg:
		return shape{1, 1, api.KindInt, api.KindInt}, true
	case api.OpConcat:
		return shape{2, 2, api.KindText, api.KindText}, true
	case api.OpLength:
		return shape{1, 1, api.KindText, api.KindInt}, true
	case api.OpIsNull:
		return shape{1, 1, api.KindNull, api.KindBool}, true
	case api.OpIf:
		return shape{3, 3, api.KindNull, api.KindNull}, true
	case api.OpCoalesce:
		return shape{1, many, api.KindNull, api.KindNull}, true
	case api.OpAllen:
		return shape{4, 4, api.KindInt, api.KindBool}, true
	}
	return shape{}, false
}

// isWellFormed reports whether e is well-formed in itself, whatever its arguments are.
func isWellFormed(e api.Expr) bool {
	s, known := shapeOf(e.Op)
	return known && s.least <= len(e.Args) && len(e.Args) <= s.most && hasItsFields(e)
}

// hasItsFields reports whether the fields that the operator of e uses are as they must be, and the others are zero.
func hasItsFields(e api.Expr) bool {
	used := true
	switch e.Op {
	case api.OpConst:
		used = value.Valid(e.Value)
		e.Value = api.Value{}
	case api.OpAllen:
		used = isIndex(e.Int, api.Relations)
		fallthrough
	case api.OpColumn:
		e.Int = 0
	}
	return used && e.Int == 0 && e.Value == api.Value{} && e.Name == ""
}

// Check returns the kind of a bound expression over columns of these kinds.
func Check(e api.Expr, kinds []int) (int, api.Errno) {
	if Depth(e) > api.MaxDepth {
		return 0, api.ErrDepth
	}
	return kindOf(e, kinds)
}

func kindOf(e api.Expr, kinds []int) (int, api.Errno) {
	if err := checkItself(e, len(kinds)); err != api.OK {
		return 0, err
	}
	args := make([]int, len(e.Args))
	for i, a := range e.Args {
		kind, err := kindOf(a, kinds)
		if err != api.OK {
			return 0, err
		}
		args[i] = kind
	}
	switch e.Op {
	case api.OpConst:
		return e.Value.Kind, api.OK
	case api.OpColumn:
		return kinds[e.Int], api.OK
	}
	return resultKind(e.Op, args)
}

// checkItself returns the error of e that precedes those of its arguments, over so many columns.
func checkItself(e api.Expr, columns int) api.Errno {
	if _, known := shapeOf(e.Op); !known {
		return api.ErrKind
	}
	if !isWellFormed(e) {
		return api.ErrInvalid
	}
	if e.Op == api.OpColumn && !isIndex(e.Int, columns) {
		return api.ErrColumns
	}
	return api.OK
}

// resultKind returns the kind that an operator makes of arguments of these kinds, which it may overwrite.
func resultKind(op int, args []int) (int, api.Errno) {
	if op == api.OpIf {
		if _, isTruth := common(args[0], api.KindBool); !isTruth {
			return 0, api.ErrKind
		}
		args = args[1:]
	}
	s, _ := shapeOf(op)
	kind, equal := common(append(args, s.args)...)
	switch {
	case !equal:
		return 0, api.ErrKind
	case s.result == api.KindNull:
		return kind, api.OK
	}
	return s.result, api.OK
}

// common returns the kind that results from several, and whether they are equal, where KindNull fits every kind.
func common(kinds ...int) (int, bool) {
	result := api.KindNull
	for _, k := range kinds {
		if k == api.KindNull {
			continue
		}
		if result != api.KindNull && k != result {
			return 0, false
		}
		result = k
	}
	return result, true
}
