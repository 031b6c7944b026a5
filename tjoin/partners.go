package tjoin

import (
	"maps"
	"slices"

	"bitemporal/api"
	"bitemporal/expr"
	"bitemporal/period"
	"bitemporal/predicate"
	"bitemporal/rowkey"
	"bitemporal/tuple"
)

// eachPair calls action for each pair of a fact of a and a fact of b that have instants in common and for whose rows e holds: with the index of the fact of a, the columns of both rows, which do not last longer than the call, and the common instants. For one fact of a, these are in ascending order.
func eachPair(a, b api.Relation, e api.Expr, action func(i int, row []api.Value, common api.Period)) {
	mine, its := equated(e, len(a.Kinds))
	first, second := divided(a.Facts, mine), divided(b.Facts, its)
	var row []api.Value
	for _, key := range slices.Sorted(maps.Keys(first)) {
		sweep(first[key], second[key], func(x, y place) {
			row = append(append(row[:0], a.Facts[x.index].Row...), b.Facts[y.index].Row...)
			if expr.Truth(e, row) == api.True {
				common, _ := period.Intersect(x.during, y.during)
				action(x.index, row, common)
			}
		})
	}
}

// equated returns the columns of a first and of a second row that must be equal in pairs for e to hold, if the first row has so many columns.
func equated(e api.Expr, columns int) (mine, its []int) {
	for _, equation := range predicate.Equations(e, columns) {
		mine = append(mine, equation.A)
		its = append(its, equation.B-columns)
	}
	return mine, its
}

// divided returns the places of facts in ascending order, by the keys of some columns. Two relations that are divided by columns that must be equal have partners under equal keys only, and rows with a null there have none at all.
func divided(l []api.Fact, columns []int) map[string][]place {
	groups := map[string][]place{}
	for _, p := range places(l, whole) {
		row := l[p.index].Row
		if !tuple.HasNull(row, columns) {
			key := rowkey.Of(tuple.Pick(row, columns))
			groups[key] = append(groups[key], p)
		}
	}
	return groups
}

// extended returns a span with a period that begins no earlier than the last one of the span.
func extended(l []api.Period, p api.Period) []api.Period {
	last := len(l) - 1
	if last < 0 {
		return append(l, p)
	}
	both, isOne := period.Merge(l[last], p)
	if !isOne {
		return append(l, p)
	}
	l[last] = both
	return l
}

// parts returns each fact during the periods that a function makes of its own period and of those at which it has partners.
func parts(l []api.Fact, partnered [][]api.Period, part func(all, partnered []api.Period) []api.Period) []api.Fact {
	var result []api.Fact
	for i, f := range l {
		for _, p := range part([]api.Period{f.Valid}, partnered[i]) {
			result = append(result, api.Fact{Row: f.Row, Valid: p})
		}
	}
	return result
}
