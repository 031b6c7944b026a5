package snapshot

import (
	"slices"

	"bitemporal/api"
	"bitemporal/expr"
	"bitemporal/predicate"
	"bitemporal/rowkey"
	"bitemporal/tuple"
)

// evaluate returns the result of a plan that Check accepts. Its rows are in no order and may share memory with the plan and its inputs.
func evaluate(p api.Plan, in []api.Bag) api.Bag {
	var inputs [mostInputs]api.Bag
	for i, q := range p.Inputs {
		inputs[i] = evaluate(q, in)
	}
	a, b := inputs[0], inputs[1]
	switch p.Op {
	case api.PlanScan:
		return in[p.Int]
	case api.PlanValues:
		return api.Bag{Kinds: p.Kinds, Rows: p.Rows}
	case api.PlanFilter:
		return filter(a, p.Pred)
	case api.PlanProject:
		return project(a, p.Exprs)
	case api.PlanJoin, api.PlanLeft:
		return join(a, b, p.Pred, p.Op == api.PlanLeft)
	case api.PlanUnion:
		return union(a, b)
	case api.PlanExcept:
		return except(a, b)
	case api.PlanIntersect:
		return intersect(a, b)
	case api.PlanDistinct:
		return distinct(a)
	}
	return group(a, p.Keys, p.Aggs)
}

func filter(b api.Bag, e api.Expr) api.Bag {
	return selected(b, func(row []api.Value) bool { return holds(e, row) })
}

func project(b api.Bag, l []api.Expr) api.Bag {
	kinds, _ := projectKinds(l, b.Kinds)
	rows := make([][]api.Value, len(b.Rows))
	for i, row := range b.Rows {
		rows[i] = make([]api.Value, len(l))
		for j, e := range l {
			rows[i][j] = expr.Eval(e, row)
		}
	}
	return api.Bag{Kinds: kinds, Rows: rows}
}

func join(a, b api.Bag, e api.Expr, left bool) api.Bag {
	var rows [][]api.Value
	var pair []api.Value
	candidates := candidatesIn(b, len(a.Kinds), e)
	nulls := tuple.Nulls(len(b.Kinds))
	for _, x := range a.Rows {
		isAlone := true
		for _, y := range candidates(x) {
			pair = append(append(pair[:0], x...), y...)
			if holds(e, pair) {
				rows = append(rows, slices.Clone(pair))
				isAlone = false
			}
		}
		if left && isAlone {
			rows = append(rows, tuple.Concat(x, nulls))
		}
	}
	return api.Bag{Kinds: slices.Concat(a.Kinds, b.Kinds), Rows: rows}
}

// candidatesIn returns a function from a row of so many columns to the rows of b that satisfy the equations of e with it: no others can be its partners, and testing every pair would take too long.
func candidatesIn(b api.Bag, columns int, e api.Expr) func(row []api.Value) [][]api.Value {
	var mine, its []int
	for _, equation := range predicate.Equations(e, columns) {
		mine = append(mine, equation.A)
		its = append(its, equation.B-columns)
	}
	index := map[string][][]api.Value{}
	for _, row := range b.Rows {
		key := rowkey.Of(tuple.Pick(row, its))
		index[key] = append(index[key], row)
	}
	return func(row []api.Value) [][]api.Value { return index[rowkey.Of(tuple.Pick(row, mine))] }
}

func union(a, b api.Bag) api.Bag {
	return api.Bag{Kinds: a.Kinds, Rows: slices.Concat(a.Rows, b.Rows)}
}

func except(a, b api.Bag) api.Bag {
	left := numbers(b)
	return selected(a, func(row []api.Value) bool { return !take(left, row) })
}

func intersect(a, b api.Bag) api.Bag {
	left := numbers(b)
	return selected(a, func(row []api.Value) bool { return take(left, row) })
}

func distinct(b api.Bag) api.Bag {
	known := map[string]bool{}
	return selected(b, func(row []api.Value) bool {
		key := rowkey.Of(row)
		isFirst := !known[key]
		known[key] = true
		return isFirst
	})
}

// numbers returns how often each row occurs in a bag, by their keys.
func numbers(b api.Bag) map[string]int {
	n := map[string]int{}
	for _, row := range b.Rows {
		n[rowkey.Of(row)]++
	}
	return n
}

// take takes a row out of a bag of which it knows the numbers, and reports whether there was one.
func take(left map[string]int, row []api.Value) bool {
	key := rowkey.Of(row)
	if left[key] == 0 {
		return false
	}
	left[key]--
	return true
}

// selected returns the rows of a bag that are wanted, with its kinds.
func selected(b api.Bag, isWanted func(row []api.Value) bool) api.Bag {
	var rows [][]api.Value
	for _, row := range b.Rows {
		if isWanted(row) {
			rows = append(rows, row)
		}
	}
	return api.Bag{Kinds: b.Kinds, Rows: rows}
}

func holds(e api.Expr, row []api.Value) bool { return expr.Truth(e, row) == api.True }
