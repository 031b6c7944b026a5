package snapshot

import (
	"slices"

	"bitemporal/api"
	"bitemporal/rowkey"
	"bitemporal/tuple"
	"bitemporal/value"
	"bitemporal/widesum"
)

// collection is a group: its key columns and its rows.
type collection struct {
	key  []api.Value
	rows [][]api.Value
}

func group(b api.Bag, keys []int, l []api.Agg) api.Bag {
	var rows [][]api.Value
	for _, c := range collections(b.Rows, keys) {
		row := c.key
		for _, a := range l {
			row = append(row, aggregate(c.rows, a))
		}
		rows = append(rows, row)
	}
	return api.Bag{Kinds: groupKinds(b.Kinds, keys, l), Rows: rows}
}

// collections divides rows into groups.
func collections(rows [][]api.Value, keys []int) []collection {
	if len(keys) == 0 {
		return []collection{{rows: rows}}
	}
	var l []collection
	numbers := map[string]int{}
	for _, row := range rows {
		picked := tuple.Pick(row, keys)
		key := rowkey.Of(picked)
		n, known := numbers[key]
		if !known {
			n = len(l)
			numbers[key] = n
			l = append(l, collection{key: picked})
		}
		l[n].rows = append(l[n].rows, row)
	}
	return l
}

// allRows is the aggregate that counts rows rather than the values of a column.
func allRows() api.Agg { return api.Agg{Op: api.AggCount, Arg: -1} }

// aggregate returns the result of an aggregate for the rows of a group.
func aggregate(rows [][]api.Value, a api.Agg) api.Value {
	if a == allRows() {
		return value.Int(len(rows))
	}
	l := valuesOf(rows, a.Arg)
	switch {
	case a.Op == api.AggCount:
		return value.Int(len(l))
	case len(l) == 0:
		return value.Null()
	case a.Op == api.AggSum:
		return sum(l)
	case a.Op == api.AggMin:
		return slices.MinFunc(l, value.Compare)
	}
	return slices.MaxFunc(l, value.Compare)
}

// valuesOf returns the values of a column that are not null.
func valuesOf(rows [][]api.Value, column int) []api.Value {
	var l []api.Value
	for _, row := range rows {
		if isIndex(column, len(row)) && row[column].Kind != api.KindNull {
			l = append(l, row[column])
		}
	}
	return l
}

// sum returns the sum of integers, or a null if it is out of range.
func sum(l []api.Value) api.Value {
	var s widesum.Sum
	for _, v := range l {
		s.Add(v.Int)
	}
	return s.Value()
}
