package span

import (
	"cmp"
	"slices"

	"bitemporal/api"
	"bitemporal/period"
)

// bound is a bound of a valid period of the first or the second of two lists; count is 1 where the period begins and -1 where it ends.
type bound struct{ at, list, count int }

// sweep returns, in ascending order, the elementary periods from one bound of two lists to the next one that belong to the result, as a function decides that is told which of the lists contain them. An elementary period that neither contains must not belong.
func sweep(a, b []api.Period, belongs func(inA, inB bool) bool) []api.Period {
	bounds := slices.Concat(boundsOf(a, 0), boundsOf(b, 1))
	slices.SortFunc(bounds, func(x, y bound) int { return cmp.Compare(x.at, y.at) })
	var result []api.Period
	var open [2]int
	for i, next := range bounds {
		if i > 0 && bounds[i-1].at < next.at && belongs(open[0] > 0, open[1] > 0) {
			result = append(result, api.Period{From: bounds[i-1].at, To: next.at})
		}
		open[next.list] += next.count
	}
	return result
}

// boundsOf returns the bounds of the valid periods of a list, in no order.
func boundsOf(l []api.Period, list int) []bound {
	var bounds []bound
	for _, p := range l {
		if period.Valid(p) {
			bounds = append(bounds, bound{p.From, list, 1}, bound{p.To, list, -1})
		}
	}
	return bounds
}

// joined returns the span of ascending periods that do not overlap.
func joined(l []api.Period) []api.Period {
	var result []api.Period
	for _, p := range l {
		last := len(result) - 1
		if last >= 0 && period.Adjacent(result[last], p) {
			result[last].To = p.To
		} else {
			result = append(result, p)
		}
	}
	return result
}
