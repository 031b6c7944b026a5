package allen

import "bitemporal/api"

// Three periods have at most six different bounds, so the periods with bounds from 0 to 5 can be arranged in every way in which three periods can be arranged.
const (
	smallBounds  = 6
	smallPeriods = smallBounds * (smallBounds - 1) / 2
)

// table has, for each pair of relations, the set of the relations in their composition.
type table [api.Relations][api.Relations]set

// Compose returns the possible relations of p to r, given those of p to q and of q to r, in ascending order.
func Compose(a, b int) []int {
	if !isRelation(a) || !isRelation(b) {
		return nil
	}
	compositions := newTable()
	return compositions[a][b].list()
}

// newTable collects the relations that occur between three small periods.
func newTable() table {
	var t table
	between := relationsOfSmall()
	for p := range smallPeriods {
		for q := range smallPeriods {
			for r := range smallPeriods {
				entry := &t[between[p][q]][between[q][r]]
				*entry = entry.with(between[p][r])
			}
		}
	}
	return t
}

// relationsOfSmall returns the relation of each small period to each other one.
func relationsOfSmall() [smallPeriods][smallPeriods]int {
	var between [smallPeriods][smallPeriods]int
	periods := listSmall()
	for i, p := range periods {
		for j, q := range periods {
			between[i][j], _ = Relation(p, q)
		}
	}
	return between
}

func listSmall() [smallPeriods]api.Period {
	var periods [smallPeriods]api.Period
	n := 0
	for to := range smallBounds {
		for from := range to {
			periods[n] = api.Period{From: from, To: to}
			n++
		}
	}
	return periods
}

// compose returns the union of the compositions of the members of a with those of b.
func (t *table) compose(a, b set) set {
	var s set
	seconds := b.list()
	for _, first := range a.list() {
		for _, second := range seconds {
			s = s.union(t[first][second])
		}
	}
	return s
}
