package steps

import (
	"cmp"
	"math"
	"slices"

	"bitemporal/api"
)

// merge calls visit for each instant at which one of two lists has elements, in ascending order, with the elements that each list has there. Each list is sorted by the instants of its elements.
func merge[A, B any](a []A, b []B, atA func(A) int, atB func(B) int, visit func(at int, fromA []A, fromB []B)) {
	for len(a) > 0 || len(b) > 0 {
		at := min(first(a, atA), first(b, atB))
		n, m := reached(a, atA, at), reached(b, atB, at)
		visit(at, a[:n], b[:m])
		a, b = a[n:], b[m:]
	}
}

// first returns the instant of the first element; that of an empty list is greater than all others.
func first[E any](l []E, at func(E) int) int {
	if len(l) == 0 {
		return math.MaxInt
	}
	return at(l[0])
}

// reached returns how many elements at the beginning of a list have an instant of at most t.
func reached[E any](l []E, at func(E) int, t int) int {
	n := 0
	for n < len(l) && at(l[n]) <= t {
		n++
	}
	return n
}

func sortBy[E any](l []E, at func(E) int) {
	slices.SortFunc(l, func(x, y E) int { return cmp.Compare(at(x), at(y)) })
}

// combine returns the function whose value at every instant is that of an operation for the values of a and b.
func combine(a, b []api.Step, operation func(x, y int) int) []api.Step {
	from := func(s api.Step) int { return s.From }
	var result []api.Step
	x, y := 0, 0
	merge(a, b, from, from, func(at int, fromA, fromB []api.Step) {
		for _, s := range fromA {
			x = s.N
		}
		for _, s := range fromB {
			y = s.N
		}
		result = changed(result, at, operation(x, y))
	})
	return result
}

// changed returns l with the value n from an instant on that does not precede the last step; a step there is replaced.
func changed(l []api.Step, at, n int) []api.Step {
	if last := len(l) - 1; last >= 0 && l[last].From == at {
		l = l[:last]
	}
	if last := len(l) - 1; last >= 0 && l[last].N == n {
		return l
	}
	return append(l, api.Step{From: at, N: n})
}

func constant(n int) []api.Step {
	return []api.Step{{From: 0, N: n}}
}

func total(l []api.Counted) int {
	sum := 0
	for _, c := range l {
		sum += c.N
	}
	return sum
}
