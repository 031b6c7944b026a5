package testkit

import "bitemporal/api"

// Grouping returns some columns and some aggregates over columns of these kinds, at least one of both.
func (m *Maker) Grouping(kinds []int) (keys []int, l []api.Agg) {
	for m.Chance(2) {
		keys = append(keys, m.Below(len(kinds)))
	}
	for m.Below(3) > 0 || len(keys)+len(l) == 0 {
		l = append(l, m.aggregate(kinds))
	}
	return keys, l
}

// Aggregates returns some aggregates over columns of these kinds, at least one.
func (m *Maker) Aggregates(kinds []int) []api.Agg {
	l := []api.Agg{m.aggregate(kinds)}
	for m.Chance(2) {
		l = append(l, m.aggregate(kinds))
	}
	return l
}

func (m *Maker) aggregate(kinds []int) api.Agg {
	a := api.Agg{Op: api.AggCount + m.Below(4), Arg: m.Below(len(kinds)+1) - 1}
	if a.Arg == -1 || a.Op == api.AggSum && kinds[a.Arg] != api.KindInt {
		a.Op = api.AggCount
	}
	return a
}
