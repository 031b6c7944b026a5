package project_test

import (
	"math"
	"reflect"
	"slices"
	"testing"

	"bitemporal/allen"
	"bitemporal/api"
	"bitemporal/coalesce"
	"bitemporal/expr"
	"bitemporal/project"
	"bitemporal/snapshot"
	"bitemporal/testkit"
)

// projection returns expressions over columns of these kinds.
func projection(m *testkit.Maker, kinds []int) []api.Expr {
	var l []api.Expr
	for _, k := range m.Kinds(3) {
		l = append(l, m.Expr(kinds, k, 2))
	}
	return l
}

// someNumber returns a number by which facts may be shifted.
func someNumber(m *testkit.Maker) int {
	l := []int{math.MinInt, math.MinInt + 1, -api.Forever - 1, -api.Forever, 1 - api.Forever, api.Forever - 1, api.Forever, api.Forever + 1, math.MaxInt}
	if m.Chance(3) {
		return l[m.Below(len(l))]
	}
	return m.Below(19) - 9
}

// TestSequencedForms compares the snapshots of the results with the results for the snapshots.
func TestSequencedForms(t *testing.T) {
	m, kept := testkit.New(1), 0
	for range 8000 {
		r := m.Relation(m.Kinds(3), 7)
		before := testkit.Whole(r)
		e := m.Predicate(r.Kinds, nil)
		got := project.Filter(r, e)
		if !testkit.Is(got, func(at int) api.Bag { return snapshot.Filter(testkit.Bag(r, at), e) }) || testkit.SharesMemory(got, r) {
			t.Fatalf("Filter of %v by %+v: %v", r, e, got)
		}
		kept += len(got.Facts)
		l := projection(m, r.Kinds)
		got = project.Project(r, l)
		if !testkit.Is(got, func(at int) api.Bag { return snapshot.Project(testkit.Bag(r, at), l) }) || testkit.SharesMemory(got, r) {
			t.Fatalf("Project of %v to %+v: %v", r, l, got)
		}
		if !reflect.DeepEqual(testkit.Whole(r), before) {
			t.Fatalf("%v was changed: %v", before, r)
		}
	}
	if kept < 5000 {
		t.Error("too few facts are kept", kept)
	}
}

// TestOperationsOnPeriods compares the results with facts that are chosen from the canonical form.
func TestOperationsOnPeriods(t *testing.T) {
	m, seen := testkit.New(2), map[int]int{}
	for range 8000 {
		r := m.Relation(m.Kinds(2), 7)
		before := testkit.Whole(r)
		check := func(name string, got api.Relation, isKept func(p api.Period) bool) {
			t.Helper()
			var want []api.Fact
			for _, f := range coalesce.Bag(r.Facts) {
				if isKept(f.Valid) {
					want = append(want, f)
				}
			}
			if !slices.Equal(got.Kinds, r.Kinds) || !testkit.Identical(got.Facts, want) || testkit.SharesMemory(got, r) || !coalesce.Canonical(got.Facts) {
				t.Fatalf("%s of %v: %v, want %v", name, r, got, want)
			}
		}
		n := someNumber(m)
		check("Longer", project.Longer(r, n), func(p api.Period) bool {
			length := p.To - p.From
			return length >= n
		})
		rel, p := m.Below(api.Relations+2)-1, m.Period()
		if m.Chance(4) {
			p = m.AnyPeriod()
		}
		got := project.Touching(r, rel, p)
		check("Touching", got, func(q api.Period) bool {
			is, valid := allen.Relation(q, p)
			return valid && is == rel
		})
		seen[rel] += len(got.Facts)
		if !reflect.DeepEqual(testkit.Whole(r), before) {
			t.Fatalf("%v was changed: %v", before, r)
		}
	}
	for rel := range api.Relations {
		if seen[rel] < 10 {
			t.Error("too few facts in a relation", seen)
		}
	}
}

// TestShiftedSnapshots checks that the snapshot of the result at t is that at t - n, or that of the facts without an end if t - n is too late for an instant.
func TestShiftedSnapshots(t *testing.T) {
	m := testkit.New(3)
	for range 8000 {
		r := m.Relation(m.Kinds(2), 7)
		before := testkit.Whole(r)
		n := someNumber(m)
		got := project.Shift(r, n)
		var points []int
		for _, at := range testkit.Bounds() {
			if n > -2*api.Forever && n < 2*api.Forever {
				points = append(points, at+n)
			}
		}
		want := func(at int) api.Bag {
			switch {
			case n > at:
				return api.Bag{Kinds: r.Kinds}
			case n <= at-api.Forever:
				return testkit.Bag(r, api.Forever-1)
			}
			return testkit.Bag(r, at-n)
		}
		if !testkit.Is(got, want, points...) || testkit.SharesMemory(got, r) {
			t.Fatalf("Shift of %v by %d: %v", r, n, got)
		}
		if !reflect.DeepEqual(testkit.Whole(r), before) {
			t.Fatalf("%v was changed: %v", before, r)
		}
	}
}

// TestConsequences checks what the chapter says about several calls.
func TestConsequences(t *testing.T) {
	m := testkit.New(4)
	for range 5000 {
		r := m.Relation(m.Kinds(3), 7)
		l := projection(m, r.Kinds)
		q := project.Project(r, l)
		e := m.Predicate(q.Kinds, nil)
		testkit.Same(t, "Substitute", project.Filter(q, e), project.Project(project.Filter(r, expr.Substitute(e, l)), l))
		canonical := api.Relation{Kinds: r.Kinds, Facts: coalesce.Bag(r.Facts)}
		testkit.Same(t, "Longer by 1", project.Longer(r, 1), canonical)
		n, o := someNumber(m), someNumber(m)
		testkit.Same(t, "Longer twice", project.Longer(project.Longer(r, n), o), project.Longer(r, max(n, o)))
		p, number := m.Period(), 0
		for rel := range api.Relations {
			number += len(project.Touching(r, rel, p).Facts)
		}
		if number != len(canonical.Facts) {
			t.Fatalf("%d of the facts of %v are in a relation to %v", number, r, p)
		}
	}
}

// TestEquivalentRelations checks that the results do not depend on the list that stands for a relation.
func TestEquivalentRelations(t *testing.T) {
	m := testkit.New(5)
	for range 4000 {
		r := m.Relation(m.Kinds(2), 7)
		other := m.Equivalent(r)
		l, e, n := projection(m, r.Kinds), m.Predicate(r.Kinds, nil), someNumber(m)
		rel, p := m.Below(api.Relations), m.Period()
		results := func(r api.Relation) []api.Relation {
			return []api.Relation{project.Filter(r, e), project.Project(r, l), project.Longer(r, n), project.Touching(r, rel, p), project.Shift(r, n)}
		}
		if a, b := results(r), results(other); !reflect.DeepEqual(a, b) {
			t.Fatalf("%v and %v: %v, %v", r, other, a, b)
		}
	}
}

// TestAnyArguments calls the functions with arguments for which nothing is promised but that they return.
func TestAnyArguments(t *testing.T) {
	m := testkit.New(6)
	for range 10000 {
		r := m.AnyRelation(4)
		e := m.Predicate(m.Kinds(4), nil)
		if m.Chance(3) {
			e.Op, e.Int = m.AnyNumber(), m.AnyNumber()
		}
		for _, got := range []api.Relation{
			project.Filter(r, e), project.Project(r, []api.Expr{e, testkit.Column(m.AnyNumber())}), project.Project(r, nil),
			project.Longer(r, m.AnyNumber()), project.Touching(r, m.AnyNumber(), m.AnyPeriod()), project.Shift(r, m.AnyNumber()),
		} {
			if !coalesce.Canonical(got.Facts) || testkit.SharesMemory(got, r) {
				t.Fatal(got, r)
			}
		}
	}
}

// TestInvalidPeriods checks that facts with periods that are not valid are not shifted into valid ones.
func TestInvalidPeriods(t *testing.T) {
	for _, f := range []api.Fact{fact(-3, 5, 1), fact(5, 5, 1), fact(7, 5, 1), fact(3, forever+1, 1), fact(-9, -2, 1), fact(math.MinInt, math.MaxInt, 1), fact(math.MaxInt, math.MinInt, 1)} {
		for _, n := range []int{math.MinInt, -4, 0, 4, 12, math.MaxInt} {
			if got := project.Shift(numbers(f), n); len(got.Facts) != 0 {
				t.Errorf("%v by %d: %v", f, n, got)
			}
		}
	}
}

// TestManyFacts would take minutes if time grew with the square of the number of facts.
func TestManyFacts(t *testing.T) {
	const n = 100000
	var r api.Relation
	for i := range n {
		r.Facts = append(r.Facts, fact(i, i+1, 1), fact(i, i+2, 2+i))
	}
	r.Kinds = []int{api.KindInt}
	for i, got := range []api.Relation{
		project.Filter(r, column0(api.OpGt, 1)), project.Project(r, []api.Expr{testkit.Column(0)}), project.Longer(r, 3),
		project.Touching(r, api.StartedBy, api.Period{From: 0, To: 1}), project.Shift(r, 2-n),
	} {
		if want := []int{n, n + 1, 1, 2, 4}[i]; len(got.Facts) != want {
			t.Error(i, len(got.Facts))
		}
	}
}
