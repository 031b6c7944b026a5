package coalesce_test

import (
	"math"
	"reflect"
	"slices"
	"testing"

	"bitemporal/api"
	"bitemporal/coalesce"
	"bitemporal/period"
	"bitemporal/steps"
)

// whole returns facts with everything in the spare capacity of their rows.
func whole(l []api.Fact) [][]api.Value {
	var rows [][]api.Value
	for _, f := range l {
		rows = append(rows, slices.Clone(f.Row[:cap(f.Row)]))
	}
	return rows
}

// TestResultsAgreeWithTheDefinitions compares the results for random facts with the model.
func TestResultsAgreeWithTheDefinitions(t *testing.T) {
	next := random(1)
	counts := map[int]int{}
	for range 10000 {
		l := someFacts(next, []int{4, 12}[next(2)], 1+next(9))
		before, rows := slices.Clone(l), whole(l)
		check := func(name string, got, want []api.Fact) {
			t.Helper()
			if !identical(got, want) || sharesMemory(got, l) {
				t.Fatalf("%s of %v: %v, want %v", name, l, got, want)
			}
		}
		bag := canonical(l, len(l))
		check("Bag", coalesce.Bag(l), bag)
		check("Set", coalesce.Set(l), canonical(l, 1))
		p := somePeriod(next)
		check("Restrict", coalesce.Restrict(l, p), canonical(restricted(l, p), len(l)))
		if coalesce.Canonical(l) != identical(l, bag) || !coalesce.Canonical(bag) {
			t.Fatal("Canonical", l)
		}
		for _, at := range instants() {
			if got := coalesce.At(l, at); !equalRows(got, snapshot(l, at)) || sharesMemory(got, l) {
				t.Fatalf("At %d of %v: %v", at, l, got)
			}
		}
		for _, row := range someRows() {
			got := coalesce.Counts(l, row)
			for _, at := range instants() {
				if !steps.Valid(got) || steps.At(got, at) != countOf(l, row, at) {
					t.Fatalf("Counts of %v in %v: %v", row, l, got)
				}
				counts[countOf(l, row, at)]++
			}
		}
		if got := coalesce.Points(l); !slices.Equal(got, points(l)) {
			t.Fatalf("Points of %v: %v", l, got)
		}
		if !reflect.DeepEqual(l, before) || !reflect.DeepEqual(whole(l), rows) {
			t.Fatal("the facts were changed", before, l)
		}
	}
	for n := range 4 {
		if counts[n] < 1000 {
			t.Error("too few rows that are valid several times", counts)
		}
	}
}

// restricted returns each fact with the instants that its period has in common with p, if there are any.
func restricted(l []api.Fact, p api.Period) []api.Fact {
	var result []api.Fact
	for _, f := range l {
		common := maximal(func(t int) bool { return isDuring(f.Valid, t) && isDuring(p, t) })
		for _, q := range common {
			result = append(result, api.Fact{Row: f.Row, Valid: q})
		}
	}
	return result
}

// points returns the numbers at which a valid period begins or ends, and 0.
func points(l []api.Fact) []int {
	return slices.DeleteFunc(bounds(), func(n int) bool {
		return n < 0 || n >= api.Forever || n > 0 && !slices.ContainsFunc(l, func(f api.Fact) bool {
			return (f.Valid.From == n || f.Valid.To == n) && 0 <= f.Valid.From && f.Valid.From < f.Valid.To && f.Valid.To <= api.Forever
		})
	})
}

// divided returns facts with the same snapshots, in another order and with some periods divided.
func divided(next func(n int) int, l []api.Fact) []api.Fact {
	var result []api.Fact
	for _, f := range l {
		if at := bounds()[3+next(9)]; next(2) == 0 && isDuring(f.Valid, at) && at > f.Valid.From {
			g := f
			f.Valid.To, g.Valid.From = at, at
			result = append(result, g)
		}
		result = append(result, f)
	}
	for i := range result {
		j := next(i + 1)
		result[i], result[j] = result[j], result[i]
	}
	return result
}

// TestEquivalence checks Same against the snapshots, and that equivalent lists, and no others, have the same canonical form.
func TestEquivalence(t *testing.T) {
	next := random(2)
	seen := map[bool]int{}
	for range 10000 {
		n := 1 + next(3)
		a, b := someFacts(next, 4, n), someFacts(next, 2, n)
		switch next(3) {
		case 0:
			b = divided(next, a)
		case 1:
			b = divided(next, append(slices.Clone(a), b...))
		}
		want := equivalent(a, b)
		seen[want]++
		if coalesce.Same(a, b) != want || coalesce.Same(b, a) != want || identical(coalesce.Bag(a), coalesce.Bag(b)) != want {
			t.Fatalf("%v and %v: %t", a, b, want)
		}
	}
	if seen[true] < 2000 || seen[false] < 2000 {
		t.Error(seen)
	}
}

// TestConsequences checks what the chapter says about the canonical form.
func TestConsequences(t *testing.T) {
	next := random(3)
	for range 8000 {
		l := someFacts(next, 9, 1+next(4))
		bag, set := coalesce.Bag(l), coalesce.Set(l)
		if !coalesce.Same(bag, l) || !identical(coalesce.Bag(divided(next, l)), bag) || !identical(coalesce.Set(bag), set) || !identical(coalesce.Bag(set), set) {
			t.Fatalf("%v: %v, %v", l, bag, set)
		}
		at := coalesce.Points(l)
		for _, instant := range instants() {
			rows := coalesce.At(l, instant)
			if !equalRows(coalesce.At(set, instant), slices.CompactFunc(slices.Clone(rows), slices.Equal)) || !equalRows(coalesce.At(bag, instant), rows) {
				t.Fatalf("%v at %d", l, instant)
			}
			if instant < 0 || instant >= api.Forever {
				continue
			}
			last := slices.DeleteFunc(slices.Clone(at), func(p int) bool { return p > instant })
			if !equalRows(rows, coalesce.At(l, last[len(last)-1])) {
				t.Fatalf("%v changes between %d and %d", l, last[len(last)-1], instant)
			}
		}
		for i, f := range bag {
			for _, g := range bag[:i] {
				if slices.Equal(f.Row, g.Row) && (period.Adjacent(f.Valid, g.Valid) || period.Overlaps(f.Valid, g.Valid) && !period.Covers(f.Valid, g.Valid) && !period.Covers(g.Valid, f.Valid)) {
					t.Fatalf("%v and %v in %v", f, g, bag)
				}
			}
		}
	}
}

// TestResultsAreNew checks that what is done to a result changes no later one.
func TestResultsAreNew(t *testing.T) {
	l := someFacts(random(4), 3, 2)
	for range 2 {
		p := coalesce.Points(l)
		c := coalesce.Counts(l, row(1))
		if p[0] != 0 || c[0].From != 0 {
			t.Fatal(p, c)
		}
		p, c = p[:cap(p)], c[:cap(c)]
		for i := range p {
			p[i] = math.MaxInt
		}
		clear(c)
		c[0].From = 9
	}
}
