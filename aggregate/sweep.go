package aggregate

import (
	"cmp"
	"slices"

	"bitemporal/api"
	"bitemporal/period"
	"bitemporal/pieces"
	"bitemporal/rowkey"
	"bitemporal/span"
	"bitemporal/tuple"
)

// divided returns the facts of each group, by the encoded columns keys. Without keys, there is one group, even if it has no facts.
func divided(l []api.Fact, keys []int) map[string][]api.Fact {
	groups := map[string][]api.Fact{}
	if len(keys) == 0 {
		groups[rowkey.Of(nil)] = nil
	}
	for _, f := range l {
		if period.Valid(f.Valid) {
			key := rowkey.Of(tuple.Pick(f.Row, keys))
			groups[key] = append(groups[key], f)
		}
	}
	return groups
}

// history returns the rows that a group with these facts has in the course of time, one for each elementary period.
func history(l []api.Fact, keys []int, aggs []api.Agg) []api.Fact {
	var head []api.Value
	if len(l) > 0 {
		head = tuple.Pick(l[0].Row, keys)
	}
	during := periodsOf(l)
	if len(keys) == 0 {
		during = append(during, api.Period{From: 0, To: api.Forever})
	}
	var results []api.Fact
	running := started(aggs)
	sweep(l, span.Slices(during), func(p api.Period, begun, ended []api.Fact) {
		row := slices.Clone(head)
		for i, a := range aggs {
			advance(running[i], a, begun, ended)
			row = append(row, running[i].result(p.From))
		}
		results = append(results, api.Fact{Row: row, Valid: p})
	})
	return results
}

func periodsOf(l []api.Fact) []api.Period {
	periods := make([]api.Period, len(l))
	for i, f := range l {
		periods[i] = f.Valid
	}
	return periods
}

// sweep calls visit for each elementary period of facts, in ascending order, with the facts whose periods have begun and ended since the preceding one.
func sweep(l []api.Fact, elementary []api.Period, visit func(p api.Period, begun, ended []api.Fact)) {
	from := func(f api.Fact) int { return f.Valid.From }
	to := func(f api.Fact) int { return f.Valid.To }
	begins, ends := sortedBy(l, from), sortedBy(l, to)
	for _, p := range elementary {
		n, m := reached(begins, from, p.From), reached(ends, to, p.From)
		visit(p, begins[:n], ends[:m])
		begins, ends = begins[n:], ends[m:]
	}
}

func sortedBy(l []api.Fact, bound func(f api.Fact) int) []api.Fact {
	return slices.SortedFunc(slices.Values(l), func(f, g api.Fact) int { return cmp.Compare(bound(f), bound(g)) })
}

// reached returns how many facts at the beginning of a list have a bound of at most t.
func reached(l []api.Fact, bound func(f api.Fact) int, t int) int {
	n := 0
	for n < len(l) && bound(l[n]) <= t {
		n++
	}
	return n
}

// eachPiece calls action for each period within p at which a step function is constant, in ascending order, with its value.
func eachPiece(l []api.Step, p api.Period, action func(q api.Period, n int)) {
	for _, piece := range pieces.Of(l) {
		if q, overlap := period.Intersect(piece.Period, p); overlap {
			action(q, piece.N)
		}
	}
}
