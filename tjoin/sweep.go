package tjoin

import (
	"cmp"
	"slices"

	"bitemporal/api"
	"bitemporal/period"
)

// place is a period that a fact takes in a sweep, with the index of the fact.
type place struct {
	index  int
	during api.Period
}

// places returns the images of the periods of facts in ascending order; a fact whose image is not valid has no place.
func places(l []api.Fact, image func(p api.Period) api.Period) []place {
	var result []place
	for i, f := range l {
		if taken := image(f.Valid); period.Valid(taken) {
			result = append(result, place{i, taken})
		}
	}
	slices.SortFunc(result, func(x, y place) int { return period.Compare(x.during, y.during) })
	return result
}

// sweep calls visit once for each place of a and place of b that overlap. Both lists must be in ascending order; for one place, the others are visited in ascending order.
func sweep(a, b []place, visit func(x, y place)) {
passing:
	for i, x := range a {
		for {
			if len(b) == 0 {
				break passing
			}
			y := b[0]
			if x.during.From <= y.during.From {
				break
			}
			for _, later := range begunBefore(y.during.To, a[i:]) {
				visit(later, y)
			}
			b = b[1:]
		}
		for _, y := range begunBefore(x.during.To, b) {
			visit(x, y)
		}
	}
}

// begunBefore returns the places of an ascending list that begin before an instant.
func begunBefore(t int, l []place) []place {
	n, _ := slices.BinarySearchFunc(l, t, func(x place, t int) int { return cmp.Compare(x.during.From, t) })
	return l[:n]
}

// pairs returns, in ascending order, the pairs of indexes of facts that a function accepts by their periods. The images of periods that it accepts must overlap.
func pairs(a, b []api.Fact, imageA, imageB func(p api.Period) api.Period, accept func(p, q api.Period) bool) []api.Pair {
	var l []api.Pair
	sweep(places(a, imageA), places(b, imageB), func(x, y place) {
		if accept(a[x.index].Valid, b[y.index].Valid) {
			l = append(l, api.Pair{A: x.index, B: y.index})
		}
	})
	slices.SortFunc(l, func(x, y api.Pair) int { return cmp.Or(cmp.Compare(x.A, y.A), cmp.Compare(x.B, y.B)) })
	return l
}

// images returns what the periods of two facts take in a sweep that is to find the pairs in a relation without visiting many others.
func images(rel int) (imageA, imageB func(p api.Period) api.Period) {
	switch rel {
	case api.Before:
		return later, first
	case api.Meets:
		return next, first
	case api.Starts, api.Equals, api.StartedBy:
		return first, first
	case api.Finishes, api.FinishedBy:
		return last, last
	case api.MetBy:
		return first, next
	case api.After:
		return first, later
	}
	return whole, whole
}

func whole(p api.Period) api.Period { return p }

func first(p api.Period) api.Period { return api.Period{From: p.From, To: p.From + 1} }

func last(p api.Period) api.Period { return api.Period{From: p.To - 1, To: p.To} }

// next returns the instant that follows a period.
func next(p api.Period) api.Period { return api.Period{From: p.To, To: p.To + 1} }

// later returns the instants after the one that follows a period.
func later(p api.Period) api.Period { return api.Period{From: p.To + 1, To: api.Forever} }
