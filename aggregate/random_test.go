package aggregate_test

import (
	"reflect"
	"slices"
	"testing"

	"bitemporal/aggregate"
	"bitemporal/api"
	"bitemporal/coalesce"
	"bitemporal/period"
	"bitemporal/snapshot"
	"bitemporal/steps"
	"bitemporal/testkit"
)

// TestGroupIsSequenced compares the snapshots of the results with the results for the snapshots.
func TestGroupIsSequenced(t *testing.T) {
	m, seen := testkit.New(1), map[int]int{}
	for range 15000 {
		r := m.Relation(m.Kinds(3), 8)
		keys, l := m.Grouping(r.Kinds)
		before, keysBefore, aggsBefore := testkit.Whole(r), slices.Clone(keys), slices.Clone(l)
		got := aggregate.Group(r, keys, l)
		if !testkit.Is(got, func(at int) api.Bag { return snapshot.Group(testkit.Bag(r, at), keys, l) }) || testkit.SharesMemory(got, r, api.Relation{Kinds: keys}) {
			t.Fatalf("Group of %v by %v: %v: %v", r, keys, l, got)
		}
		if !reflect.DeepEqual(testkit.Whole(r), before) || !slices.Equal(keys, keysBefore) || !slices.Equal(l, aggsBefore) {
			t.Fatalf("an argument was changed: %v, %v, %v", r, keys, l)
		}
		seen[len(keys)] += len(got.Facts)
		for _, a := range l {
			seen[-a.Op] += len(got.Facts)
		}
	}
	for n := -4; n <= 2; n++ {
		if seen[n] < 5000 {
			t.Error("too few facts", seen)
		}
	}
}

// width returns a width of a window.
func width(m *testkit.Maker) int {
	if m.Chance(4) {
		return m.AnyNumber()
	}
	return m.Below(8)
}

// inWindow returns the bag of the rows of the facts of a canonical form that are valid at an instant of a window.
func inWindow(r api.Relation, width, at int) api.Bag {
	b := api.Bag{Kinds: r.Kinds}
	first := max(at-max(width, 1)+1, 0)
	for _, f := range coalesce.Bag(r.Facts) {
		if period.Overlaps(f.Valid, api.Period{From: first, To: at + 1}) {
			b.Rows = append(b.Rows, f.Row)
		}
	}
	return b
}

// TestMovingAgreesWithTheDefinition compares the results with those for the facts in the window at each instant.
func TestMovingAgreesWithTheDefinition(t *testing.T) {
	m, number := testkit.New(2), 0
	for range 10000 {
		r := m.Relation(m.Kinds(3), 8)
		l, n := m.Aggregates(r.Kinds), width(m)
		before := testkit.Whole(r)
		var ends []int
		for _, at := range testkit.Bounds() {
			if n > 0 && n <= api.Forever {
				ends = append(ends, at+n-1)
			}
		}
		got := aggregate.Moving(r, l, n)
		if !testkit.Is(got, func(at int) api.Bag { return snapshot.Group(inWindow(r, n, at), nil, l) }, ends...) || testkit.SharesMemory(got, r) {
			t.Fatalf("Moving of %v by %v and %d: %v", r, l, n, got)
		}
		if !reflect.DeepEqual(testkit.Whole(r), before) {
			t.Fatalf("an argument was changed: %v", r)
		}
		number += len(got.Facts)
	}
	if number < 20000 {
		t.Error("too few facts", number)
	}
}

// someFacts returns facts with any periods and rows.
func someFacts(m *testkit.Maker) []api.Fact { return m.AnyRelation(6).Facts }

// someSteps returns a step function with negative values, too.
func someSteps(m *testkit.Maker) []api.Step {
	var l []api.Counted
	for range m.Below(8) {
		l = append(l, api.Counted{Period: m.Period(), N: m.Below(7) - 3})
	}
	if m.Chance(8) {
		l = append(l, api.Counted{Period: m.Period(), N: m.AnyNumber()})
	}
	return steps.Of(l)
}

// somePeriod returns a period that is mostly valid.
func somePeriod(m *testkit.Maker) api.Period {
	if m.Chance(5) {
		return m.AnyPeriod()
	}
	return m.Period()
}

// constantParts divides a valid period where functions with the bounds of a maker may change.
func constantParts(p api.Period) []api.Period {
	var l []api.Period
	from := p.From
	for _, at := range testkit.Bounds() {
		if period.Valid(p) && at > from && at <= p.To {
			l = append(l, api.Period{From: from, To: at})
			from = at
		}
	}
	return l
}

// TestStepsAgreeWithTheDefinition compares Count, Integral and Peak with what the values at single instants say.
func TestStepsAgreeWithTheDefinition(t *testing.T) {
	m := testkit.New(3)
	for range 20000 {
		facts := someFacts(m)
		counts := aggregate.Count(facts)
		if !steps.Valid(counts) {
			t.Fatal("not a step function", facts, counts)
		}
		for _, at := range testkit.Bounds()[:len(testkit.Bounds())-1] {
			if n := len(coalesce.At(facts, at)); steps.At(counts, at) != n {
				t.Fatalf("%d of %v are valid at %d, counted %v", n, facts, at, counts)
			}
		}
		l, p := someSteps(m), somePeriod(m)
		before := slices.Clone(l)
		integral, greatest, first := 0, 0, 0
		for i, q := range constantParts(p) {
			n := steps.At(l, q.From)
			integral += n * (q.To - q.From)
			if i == 0 || n > greatest {
				greatest, first = n, q.From
			}
		}
		if got := aggregate.Integral(l, p); got != integral {
			t.Fatalf("the integral of %v over %v is %d, want %d", l, p, got, integral)
		}
		if n, at := aggregate.Peak(l, p); n != greatest || at != first {
			t.Fatalf("the peak of %v in %v is %d at %d, want %d at %d", l, p, n, at, greatest, first)
		}
		if !slices.Equal(l, before) {
			t.Fatal("an argument was changed", l, before)
		}
	}
}

// TestConsequences checks what the chapter says about several calls.
func TestConsequences(t *testing.T) {
	m := testkit.New(4)
	for range 5000 {
		r := m.Relation(m.Kinds(3), 8)
		l := m.Aggregates(r.Kinds)
		testkit.Same(t, "the width 1", aggregate.Moving(r, l, 1), aggregate.Group(r, nil, l))
		n := 1 + m.Below(9)
		longer := api.Relation{Kinds: r.Kinds}
		for _, f := range coalesce.Bag(r.Facts) {
			if f.Valid.To < api.Forever {
				f.Valid.To = min(f.Valid.To+n-1, api.Forever)
			}
			longer.Facts = append(longer.Facts, f)
		}
		testkit.Same(t, "longer periods", aggregate.Moving(r, l, n), aggregate.Group(longer, nil, l))

		facts, p := someFacts(m), somePeriod(m)
		total := 0
		for _, f := range facts {
			if q, overlap := period.Intersect(f.Valid, p); overlap {
				total += q.To - q.From
			}
		}
		if got := aggregate.Integral(aggregate.Count(facts), p); got != total {
			t.Fatalf("%v have %d instants in common with %v, not %d", facts, got, p, total)
		}
		f := someSteps(m)
		greatest, at := aggregate.Peak(f, p)
		if !period.Valid(p) {
			continue
		}
		if steps.At(f, at) != greatest || !period.Contains(p, at) {
			t.Fatalf("the peak of %v in %v is %d at %d", f, p, greatest, at)
		}
		for _, q := range constantParts(p) {
			if n := steps.At(f, q.From); n > greatest || n == greatest && q.From < at {
				t.Fatalf("the peak of %v in %v is %d at %d", f, p, greatest, at)
			}
		}
	}
}

// TestEquivalentRelations checks that the results do not depend on the list that stands for a relation.
func TestEquivalentRelations(t *testing.T) {
	m := testkit.New(5)
	for range 4000 {
		r := m.Relation(m.Kinds(3), 8)
		other := m.Equivalent(r)
		keys, l := m.Grouping(r.Kinds)
		testkit.Same(t, "Group", aggregate.Group(r, keys, l), aggregate.Group(other, keys, l))
		l, n := m.Aggregates(r.Kinds), width(m)
		testkit.Same(t, "Moving", aggregate.Moving(r, l, n), aggregate.Moving(other, l, n))
		if !slices.Equal(aggregate.Count(r.Facts), aggregate.Count(other.Facts)) {
			t.Fatal("Count", r, other)
		}
	}
}

// TestAnyArguments calls the functions with arguments for which nothing is promised but that they return.
func TestAnyArguments(t *testing.T) {
	m := testkit.New(6)
	for range 10000 {
		r := m.AnyRelation(5)
		keys, l := m.Grouping(m.Kinds(5))
		for m.Chance(2) {
			keys = append(keys, m.AnyNumber())
		}
		for m.Chance(2) {
			l = append(l, api.Agg{Op: m.Below(7) - 1, Arg: m.AnyNumber()})
		}
		if m.Chance(4) {
			keys = nil
		}
		if m.Chance(4) {
			l = nil
		}
		for _, got := range []api.Relation{aggregate.Group(r, keys, l), aggregate.Moving(r, l, m.AnyNumber())} {
			if !coalesce.Canonical(got.Facts) || testkit.SharesMemory(got, r) {
				t.Fatal(got, r)
			}
		}
		var f []api.Step
		for range m.Below(5) {
			f = append(f, api.Step{From: m.AnyNumber(), N: m.AnyNumber()})
		}
		p := m.AnyPeriod()
		aggregate.Integral(f, p)
		aggregate.Peak(f, p)
	}
}

// TestManyFacts would take minutes if time grew with the square of the number of facts.
func TestManyFacts(t *testing.T) {
	const n = 100000
	var nested, keyed []api.Fact
	for i := range n {
		nested = append(nested, fact(i, 3*n-i, i*7919%n, 1))
		keyed = append(keyed, fact(i, i+3, i, 1))
	}
	all := aggs(countRows(), agg(api.AggSum, 0), agg(api.AggMin, 0), agg(api.AggMax, 0))
	r, s := numbers(2, nested...), numbers(2, keyed...)
	whole := api.Period{From: 0, To: forever}
	for i, x := range []struct {
		got  api.Relation
		want int
	}{
		{aggregate.Group(r, nil, all), 2 * n},
		{aggregate.Group(r, kinds(1), all), 2*n - 1},
		{aggregate.Group(s, kinds(0), all), n},
		{aggregate.Moving(r, all, n), 2 * n},
		{aggregate.Moving(s, aggs(agg(api.AggMax, 0)), n/2), n + 1},
	} {
		if len(x.got.Facts) != x.want {
			t.Error("case", i, len(x.got.Facts))
		}
	}
	counts := aggregate.Count(r.Facts)
	if greatest, at := aggregate.Peak(counts, whole); len(counts) != 2*n || greatest != n || at != n-1 || aggregate.Integral(counts, whole) != 2*n*n+n {
		t.Error(len(counts), greatest, at, aggregate.Integral(counts, whole))
	}
}
