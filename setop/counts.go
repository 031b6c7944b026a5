package setop

import (
	"maps"
	"slices"

	"bitemporal/api"
	"bitemporal/rowkey"
	"bitemporal/steps"
	"bitemporal/tuple"
)

// history is a row with the periods of its facts in each of two relations.
type history struct {
	row     []api.Value
	periods [2][]api.Counted
}

// combined returns every row, at every instant, as often as a function makes of the numbers of times that it is valid in a and in b. The kinds are those of a.
func combined(a, b api.Relation, combine func(m, n []api.Step) []api.Step) api.Relation {
	result := api.Relation{Kinds: slices.Clone(a.Kinds)}
	for _, h := range histories(a.Facts, b.Facts) {
		counts := combine(steps.Of(h.periods[0]), steps.Of(h.periods[1]))
		for _, p := range steps.Levels(counts) {
			result.Facts = append(result.Facts, api.Fact{Row: slices.Clone(h.row), Valid: p})
		}
	}
	return result
}

// histories returns the rows of two relations, in ascending order.
func histories(a, b []api.Fact) []*history {
	rows := map[string]*history{}
	for i, l := range [][]api.Fact{a, b} {
		for _, f := range l {
			key := rowkey.Of(f.Row)
			h := rows[key]
			if h == nil {
				h = &history{row: f.Row}
				rows[key] = h
			}
			h.periods[i] = append(h.periods[i], api.Counted{Period: f.Valid, N: 1})
		}
	}
	return slices.SortedFunc(maps.Values(rows), func(x, y *history) int { return tuple.Compare(x.row, y.row) })
}
