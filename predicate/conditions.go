package predicate

import (
	"bitemporal/api"
	"bitemporal/expr"
	"bitemporal/period"
	"bitemporal/value"
)

// Conditions returns the comparisons of columns with constants among the conjuncts.
func Conditions(e api.Expr) []api.Condition {
	var l []api.Condition
	visit(e, func(c api.Expr) {
		if found, states := condition(c); states {
			l = append(l, found)
		}
	})
	return l
}

// condition returns the condition that a conjunct states.
func condition(c api.Expr) (api.Condition, bool) {
	if !isComparison(c.Op) || len(c.Args) != 2 {
		return api.Condition{}, false
	}
	op, column, other := c.Op, c.Args[0], c.Args[1]
	if column.Op == api.OpConst {
		op, column, other = mirrored(op), other, column
	}
	isKnown := value.Valid(other.Value) && other.Value != value.Null()
	if column.Op != api.OpColumn || other.Op != api.OpConst || !isKnown {
		return api.Condition{}, false
	}
	return api.Condition{Op: op, Column: column.Int, Value: other.Value}, true
}

// isComparison reports whether a condition can have this operator.
func isComparison(op int) bool {
	switch op {
	case api.OpEq, api.OpLt, api.OpLe, api.OpGt, api.OpGe:
		return true
	}
	return false
}

// mirrored returns the operator that says the same with the arguments exchanged.
func mirrored(op int) int {
	switch op {
	case api.OpLt:
		return api.OpGt
	case api.OpLe:
		return api.OpGe
	case api.OpGt:
		return api.OpLt
	case api.OpGe:
		return api.OpLe
	}
	return op
}

// Equations returns the equalities between a column before split and one from split on among the conjuncts.
func Equations(e api.Expr, split int) []api.Pair {
	var l []api.Pair
	visit(e, func(c api.Expr) {
		if c.Op != api.OpEq || len(c.Args) != 2 || c.Args[0].Op != api.OpColumn || c.Args[1].Op != api.OpColumn {
			return
		}
		a, b := c.Args[0].Int, c.Args[1].Int
		if p := (api.Pair{A: min(a, b), B: max(a, b)}); p.A < split && split <= p.B {
			l = append(l, p)
		}
	})
	return l
}

// Never reports whether the conditions of a predicate contradict each other.
func Never(e api.Expr) bool {
	isExcluded := false
	visit(e, func(c api.Expr) {
		isExcluded = isExcluded || c.Op == api.OpConst && expr.Truth(c, nil) != api.True
	})
	permitted := map[int]interval{}
	for _, c := range Conditions(e) {
		values, known := permitted[c.Column]
		if !known {
			values = allOf(c.Value.Kind)
		}
		values = values.narrowed(c)
		permitted[c.Column] = values
		isExcluded = isExcluded || values.isEmpty()
	}
	return isExcluded
}

// Window returns a period that contains or overlaps every period, given by the columns from and to, for which a predicate can be true.
func Window(e api.Expr, from, to int) (api.Period, bool) {
	starts, ends := integers(0, api.Forever-1), integers(1, api.Forever)
	for _, c := range Conditions(e) {
		if c.Column == from {
			starts = starts.narrowed(c)
		}
		if c.Column == to {
			ends = ends.narrowed(c)
		}
	}
	widest := api.Period{From: starts.low.value.Int, To: ends.high.value.Int}
	common := api.Period{From: starts.high.value.Int, To: ends.low.value.Int}
	switch {
	case starts.isEmpty() || ends.isEmpty() || !period.Valid(widest):
		return api.Period{}, false
	case period.Valid(common):
		return common, true
	}
	return widest, true
}
