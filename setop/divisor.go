package setop

import (
	"slices"
	"sort"

	"bitemporal/api"
	"bitemporal/coalesce"
	"bitemporal/period"
	"bitemporal/pieces"
	"bitemporal/rowkey"
	"bitemporal/span"
	"bitemporal/steps"
	"bitemporal/tuple"
)

// divisor is what a relation demands of a head: to exist, and to be combined with each of the rows that are valid. A head belongs to the quotient at the instants at which it satisfies as many demands as there are.
type divisor struct {
	tails   map[string][]api.Period // the periods of each row, by its key, in ascending order
	demands map[int][]api.Period    // the periods with so many demands, in ascending order
}

func divisorOf(l []api.Fact) divisor {
	d := divisor{map[string][]api.Period{}, map[int][]api.Period{}}
	demands := []api.Counted{{Period: api.Period{From: 0, To: api.Forever}, N: 1}}
	for _, f := range coalesce.Set(l) {
		key := rowkey.Of(f.Row)
		d.tails[key] = append(d.tails[key], f.Valid)
		demands = append(demands, api.Counted{Period: f.Valid, N: 1})
	}
	for _, piece := range pieces.Of(steps.Of(demands)) {
		d.demands[piece.N] = append(d.demands[piece.N], piece.Period)
	}
	return d
}

// satisfied returns the instants at which a head satisfies all demands. The facts are those of the head, in canonical form without duplicates.
func (d divisor) satisfied(l []api.Fact, columns int) []api.Period {
	var present, paired []api.Period
	for _, f := range l {
		_, tail := cut(f.Row, columns)
		present = append(present, f.Valid)
		paired = append(paired, common(d.tails[rowkey.Of(tail)], f.Valid)...)
	}
	var met []api.Counted
	for _, p := range slices.Concat(span.Of(present), paired) {
		met = append(met, api.Counted{Period: p, N: 1})
	}
	var result []api.Period
	for _, piece := range pieces.Of(steps.Of(met)) {
		result = append(result, common(d.demands[piece.N], piece.Period)...)
	}
	return span.Of(result)
}

// common returns what a period has in common with each of some ascending disjoint periods. It looks at no others, as most of many periods have nothing in common with it.
func common(l []api.Period, p api.Period) []api.Period {
	var result []api.Period
	first := sort.Search(len(l), func(i int) bool { return l[i].To > p.From })
	for _, q := range l[first:] {
		both, overlap := period.Intersect(p, q)
		if !overlap {
			break
		}
		result = append(result, both)
	}
	return result
}

// cut returns the head of a row, which has so many columns, and its tail.
func cut(row []api.Value, columns int) (head, tail []api.Value) {
	n := min(columns, len(row))
	return row[:n], row[n:]
}

// sameHead returns how many facts at the beginning of a list have the head of the first one.
func sameHead(l []api.Fact, columns int) int {
	first, _ := cut(l[0].Row, columns)
	n := slices.IndexFunc(l, func(f api.Fact) bool {
		head, _ := cut(f.Row, columns)
		return !tuple.Equal(head, first)
	})
	if n < 0 {
		return len(l)
	}
	return n
}
