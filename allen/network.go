package allen

import (
	"slices"

	"bitemporal/api"
	"bitemporal/period"
)

// mostPeriods is the greatest number of periods of a network.
const mostPeriods = 8

// network has the set of relations for each ordered pair of its n periods.
type network struct {
	n    int
	sets [mostPeriods][mostPeriods]set
}

// Tighten returns the path-consistent constraints between n periods, and whether none of them is empty.
func Tighten(n int, l []api.Constraint) ([]api.Constraint, bool) {
	if n < 1 || n > mostPeriods || !allValid(n, l) {
		return nil, false
	}
	compositions := newTable()
	w := permitted(n, l)
	for !w.hasEmpty() {
		next := w.refined(&compositions)
		if next == w {
			return w.constraints(), true
		}
		w = next
	}
	return nil, false
}

// Satisfied reports whether periods are valid and satisfy all constraints, which are valid for them.
func Satisfied(l []api.Period, c []api.Constraint) bool {
	if !allValid(len(l), c) {
		return false
	}
	for _, p := range l {
		if !period.Valid(p) {
			return false
		}
	}
	for _, one := range c {
		rel, _ := Relation(l[one.A], l[one.B])
		if !slices.Contains(one.Rels, rel) {
			return false
		}
	}
	return true
}

// allValid reports whether all constraints are valid between n periods.
func allValid(n int, l []api.Constraint) bool {
	for _, c := range l {
		if c.A < 0 || c.A >= n || c.B < 0 || c.B >= n {
			return false
		}
		for _, rel := range c.Rels {
			if !isRelation(rel) {
				return false
			}
		}
	}
	return true
}

// permitted returns the network of the relations that all constraints permit.
func permitted(n int, l []api.Constraint) network {
	w := network{n: n}
	for i := range n {
		for j := range n {
			w.sets[i][j] = allRelations()
		}
		w.sets[i][i] = setOf([]int{api.Equals})
	}
	for _, c := range l {
		rels := setOf(c.Rels)
		w.sets[c.A][c.B] = w.sets[c.A][c.B].intersect(rels)
		w.sets[c.B][c.A] = w.sets[c.B][c.A].intersect(rels.inverse())
	}
	return w
}

// refined returns the network without the relations that a way over a third period excludes.
func (w network) refined(compositions *table) network {
	for i := range w.n {
		for j := range w.n {
			for k := range w.n {
				over := compositions.compose(w.sets[i][k], w.sets[k][j])
				w.sets[i][j] = w.sets[i][j].intersect(over)
			}
		}
	}
	return w
}

func (w network) hasEmpty() bool {
	for i := range w.n {
		for j := range w.n {
			if w.sets[i][j] == (set{}) {
				return true
			}
		}
	}
	return false
}

// constraints returns the constraint of each pair, which that of the opposite pair follows from.
func (w network) constraints() []api.Constraint {
	var l []api.Constraint
	for i := range w.n {
		for j := i + 1; j < w.n; j++ {
			l = append(l, api.Constraint{A: i, B: j, Rels: w.sets[i][j].list()})
		}
	}
	return l
}
