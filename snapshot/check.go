package snapshot

import (
	"slices"

	"bitemporal/api"
	"bitemporal/expr"
	"bitemporal/tuple"
)

const (
	mostColumns = 4 * api.MaxColumns
	mostInputs  = 2
)

// Check returns the kinds of the result of a plan over inputs of these kinds.
func Check(p api.Plan, in [][]int) ([]int, api.Errno) {
	if isDeeper(p, api.MaxDepth) {
		return nil, api.ErrDepth
	}
	var check func(p api.Plan) ([]int, api.Errno)
	check = func(p api.Plan) ([]int, api.Errno) {
		if err := checkShape(p); err != api.OK {
			return nil, err
		}
		var inputs [mostInputs][]int
		for i, q := range p.Inputs {
			kinds, err := check(q)
			if err != api.OK {
				return nil, err
			}
			inputs[i] = kinds
		}
		kinds, err := resultKinds(p, in, inputs[0], inputs[1])
		if err == api.OK && (len(kinds) < 1 || len(kinds) > mostColumns) {
			err = api.ErrColumns
		}
		return kinds, err
	}
	kinds, err := check(p)
	if err != api.OK {
		return nil, err
	}
	return slices.Clone(kinds), api.OK
}

// isDeeper reports whether the depth of a plan is greater than limit, and looks no deeper than that.
func isDeeper(p api.Plan, limit int) bool {
	return limit == 0 || slices.ContainsFunc(p.Inputs, func(q api.Plan) bool { return isDeeper(q, limit-1) })
}

// checkShape returns the error of a node that precedes those of its inputs.
func checkShape(p api.Plan) api.Errno {
	n, known := inputsOf(p.Op)
	switch {
	case !known:
		return api.ErrKind
	case len(p.Inputs) != n:
		return api.ErrInvalid
	}
	return api.OK
}

// inputsOf returns the number of inputs of an operator, and whether there is such an operator.
func inputsOf(op int) (int, bool) {
	switch op {
	case api.PlanScan, api.PlanValues:
		return 0, true
	case api.PlanFilter, api.PlanProject, api.PlanDistinct, api.PlanGroup:
		return 1, true
	case api.PlanJoin, api.PlanLeft, api.PlanUnion, api.PlanExcept, api.PlanIntersect:
		return 2, true
	}
	return 0, false
}

// resultKinds returns the kinds of the result of a node and the error of its operator. The kinds of its inputs are first and second, those of the bags in.
func resultKinds(p api.Plan, in [][]int, first, second []int) ([]int, api.Errno) {
	switch p.Op {
	case api.PlanScan:
		return scanKinds(p.Int, in)
	case api.PlanValues:
		return p.Kinds, checkValues(p)
	case api.PlanFilter:
		return first, checkPredicate(p.Pred, first)
	case api.PlanProject:
		return projectKinds(p.Exprs, first)
	case api.PlanJoin, api.PlanLeft:
		both := slices.Concat(first, second)
		return both, checkPredicate(p.Pred, both)
	case api.PlanUnion, api.PlanExcept, api.PlanIntersect:
		return first, checkEqual(first, second)
	case api.PlanGroup:
		return groupKinds(first, p.Keys, p.Aggs), checkGroup(first, p.Keys, p.Aggs)
	}
	return first, api.OK
}

func scanKinds(i int, in [][]int) ([]int, api.Errno) {
	if !isIndex(i, len(in)) {
		return nil, api.ErrRange
	}
	return in[i], checkKinds(in[i])
}

// checkKinds returns an error if one of some kinds is not that of a column.
func checkKinds(kinds []int) api.Errno {
	for _, k := range kinds {
		if k != api.KindInt && k != api.KindText && k != api.KindBool {
			return api.ErrKind
		}
	}
	return api.OK
}

func checkValues(p api.Plan) api.Errno {
	if len(p.Rows) > api.MaxRows {
		return api.ErrTooLong
	}
	if err := checkKinds(p.Kinds); err != api.OK {
		return err
	}
	for _, row := range p.Rows {
		if !tuple.Fits(row, p.Kinds) {
			return api.ErrInvalid
		}
	}
	return api.OK
}

// checkPredicate returns an error if e is not a predicate over columns of these kinds.
func checkPredicate(e api.Expr, kinds []int) api.Errno {
	kind, err := expr.Check(e, kinds)
	if err == api.OK && kind != api.KindBool && kind != api.KindNull {
		return api.ErrKind
	}
	return err
}

// projectKinds returns the kinds of expressions over columns of these kinds.
func projectKinds(l []api.Expr, kinds []int) ([]int, api.Errno) {
	result := make([]int, len(l))
	for i, e := range l {
		kind, err := expr.Check(e, kinds)
		if err != api.OK {
			return nil, err
		}
		if kind == api.KindNull {
			return nil, api.ErrKind
		}
		result[i] = kind
	}
	return result, api.OK
}

func checkEqual(first, second []int) api.Errno {
	switch {
	case len(first) != len(second):
		return api.ErrColumns
	case !slices.Equal(first, second):
		return api.ErrKind
	}
	return api.OK
}

func checkGroup(kinds, keys []int, l []api.Agg) api.Errno {
	for _, k := range keys {
		if !isIndex(k, len(kinds)) {
			return api.ErrRange
		}
	}
	for _, a := range l {
		if err := checkAggregate(a, kinds); err != api.OK {
			return err
		}
	}
	return api.OK
}

func checkAggregate(a api.Agg, kinds []int) api.Errno {
	switch {
	case a.Op < api.AggCount || a.Op > api.AggMax:
		return api.ErrKind
	case a == allRows():
		return api.OK
	case !isIndex(a.Arg, len(kinds)):
		return api.ErrRange
	case a.Op == api.AggSum && kinds[a.Arg] != api.KindInt:
		return api.ErrKind
	}
	return api.OK
}

// groupKinds returns the kinds of the rows of groups, where a column that does not exist has the kind of a null.
func groupKinds(kinds, keys []int, l []api.Agg) []int {
	kindOf := func(column int) int {
		if !isIndex(column, len(kinds)) {
			return api.KindNull
		}
		return kinds[column]
	}
	var result []int
	for _, k := range keys {
		result = append(result, kindOf(k))
	}
	for _, a := range l {
		if a.Op == api.AggCount || a.Op == api.AggSum {
			result = append(result, api.KindInt)
		} else {
			result = append(result, kindOf(a.Arg))
		}
	}
	return result
}

// isIndex reports whether a list of n elements has the index i.
func isIndex(i, n int) bool { return 0 <= i && i < n }
