package testkit_test

import (
	"slices"
	"testing"

	"bitemporal/api"
	"bitemporal/coalesce"
	"bitemporal/expr"
	"bitemporal/period"
	"bitemporal/snapshot"
	"bitemporal/testkit"
	"bitemporal/tuple"
)

// TestPredicates checks that predicates are often true, but not always.
func TestPredicates(t *testing.T) {
	m, seen := testkit.New(7), map[int]int{}
	for range 10000 {
		kinds := m.Kinds(4)
		for _, row := range m.Rows(kinds, 3) {
			seen[expr.Truth(m.Predicate(kinds, nil), row)]++
		}
	}
	for _, truth := range []int{api.False, api.Unknown, api.True} {
		if seen[truth] < 1000 {
			t.Error(seen)
		}
	}
}

func TestExpressionsHaveTheirKind(t *testing.T) {
	m := testkit.New(1)
	for range 10000 {
		kinds, kind := m.Kinds(4), m.Kind()
		e := m.Expr(kinds, kind, m.Below(4))
		if got, err := expr.Check(e, kinds); err != api.OK || got != kind {
			t.Fatal(e, kinds, got, err)
		}
		if got, err := expr.Check(m.Predicate(kinds, nil), kinds); err != api.OK || got != api.KindBool && got != api.KindNull {
			t.Fatal(e, kinds, got, err)
		}
	}
}

func TestRelations(t *testing.T) {
	m, repeated, valid := testkit.New(2), 0, map[bool]int{}
	for range 10000 {
		r := m.Relation(m.Kinds(3), 8)
		for _, f := range r.Facts {
			if !tuple.Fits(f.Row, r.Kinds) || !period.Valid(f.Valid) {
				t.Fatal(r)
			}
		}
		if !coalesce.Same(r.Facts, coalesce.Set(r.Facts)) {
			repeated++
		}
		valid[period.Valid(m.AnyPeriod())]++
	}
	if repeated < 3000 || repeated > 7000 || valid[true] < 2000 || valid[false] < 2000 {
		t.Error(repeated, valid)
	}
}

func relation(from, to int, rows ...int) api.Relation {
	r := api.Relation{Kinds: []int{api.KindInt}}
	for _, n := range rows {
		r.Facts = append(r.Facts, api.Fact{Row: []api.Value{{Kind: api.KindInt, Int: n}}, Valid: api.Period{From: from, To: to}})
	}
	return r
}

func TestIs(t *testing.T) {
	r := relation(3, 9, 1, 2)
	is := func(other api.Relation) bool {
		return testkit.Is(r, func(at int) api.Bag { return testkit.Bag(other, at) })
	}
	if !is(r) || is(relation(3, 9, 1)) || is(relation(4, 9, 1, 2)) || is(relation(3, 10, 1, 2)) || is(api.Relation{Facts: r.Facts}) {
		t.Error("the kinds or the snapshots are not compared")
	}
	if !testkit.Identical(r.Facts, relation(3, 9, 1, 2).Facts) || testkit.Identical(r.Facts, relation(3, 9, 1).Facts) || testkit.Identical(r.Facts, relation(3, 9, 1, 1).Facts) || testkit.Identical(r.Facts, relation(2, 9, 1, 2).Facts) {
		t.Error("Identical")
	}
	slices.Reverse(r.Facts)
	if is(r) {
		t.Error("the form is not compared")
	}
}

func TestMemory(t *testing.T) {
	r := testkit.New(3).Relation([]int{api.KindInt, api.KindText}, 9)
	copied := testkit.Whole(r)[0]
	row := slices.Clone(copied.Facts)
	row[0].Row = r.Facts[0].Row
	if testkit.SharesMemory(copied, r) || testkit.SharesMemory(r) {
		t.Error("memory that is not shared")
	}
	for i, shared := range []api.Relation{r, {Kinds: r.Kinds[:0]}, {Facts: r.Facts[:0]}, {Facts: row}} {
		if !testkit.SharesMemory(shared, copied, r) {
			t.Error("shared memory", i)
		}
	}
	if !testkit.SharesMemory(api.Relation{Facts: []api.Fact{r.Facts[0], r.Facts[0]}}) {
		t.Error("memory that rows share")
	}
	if got := testkit.Whole(r)[0]; len(got.Kinds) <= len(r.Kinds) || len(got.Facts) <= len(r.Facts) || len(got.Facts[0].Row) <= len(r.Facts[0].Row) {
		t.Error(got)
	}
}

// TestGroupings checks that groupings are such as a plan may have.
func TestGroupings(t *testing.T) {
	m, seen := testkit.New(4), map[int]int{}
	for range 5000 {
		kinds := m.Kinds(4)
		keys, l := m.Grouping(kinds)
		for _, p := range []api.Plan{{Keys: keys, Aggs: l}, {Aggs: m.Aggregates(kinds)}} {
			p.Op, p.Inputs = api.PlanGroup, []api.Plan{{Op: api.PlanScan}}
			if _, err := snapshot.Check(p, [][]int{kinds}); err != api.OK {
				t.Fatal(kinds, p, err)
			}
			for _, a := range p.Aggs {
				seen[a.Op]++
			}
		}
		seen[-len(keys)]++
	}
	for _, n := range []int{-2, -1, 0, api.AggCount, api.AggSum, api.AggMin, api.AggMax} {
		if seen[n] < 500 {
			t.Error(n, seen)
		}
	}
}

// TestEquivalent checks that equivalent relations have the same snapshots, but often not the same facts.
func TestEquivalent(t *testing.T) {
	m, different := testkit.New(5), 0
	for range 5000 {
		r := m.Relation(m.Kinds(3), 8)
		other := m.Equivalent(r)
		if !slices.Equal(r.Kinds, other.Kinds) || !coalesce.Same(r.Facts, other.Facts) || testkit.SharesMemory(other, r) {
			t.Fatal(r, other)
		}
		if len(r.Facts) != len(other.Facts) {
			different++
		}
	}
	if different < 3000 {
		t.Error(different)
	}
}

// TestAnyRelations checks that relations of any kind are sometimes valid.
func TestAnyRelations(t *testing.T) {
	m, seen := testkit.New(6), map[bool]int{}
	for range 5000 {
		r := m.AnyRelation(4)
		isValid := true
		for _, f := range r.Facts {
			isValid = isValid && period.Valid(f.Valid) && tuple.Fits(f.Row, r.Kinds)
		}
		seen[isValid]++
	}
	if seen[true] < 500 || seen[false] < 500 {
		t.Error(seen)
	}
}

func TestFact(t *testing.T) {
	got := testkit.Numbers(2, testkit.Fact(3, 7, 5, "x", true, nil)).Facts[0]
	want := []api.Value{{Kind: api.KindInt, Int: 5}, {Kind: api.KindText, Text: "x"}, {Kind: api.KindBool, Int: 1}, {}}
	if got.Valid != (api.Period{From: 3, To: 7}) || !slices.Equal(got.Row, want) || !slices.Equal(testkit.Numbers(2).Kinds, []int{api.KindInt, api.KindInt}) {
		t.Error(got)
	}
}

// reports counts what a test reports.
type reports struct{ errors, fatals int }

func (r *reports) Helper() {}

func (r *reports) Errorf(string, ...any) { r.errors++ }

func (r *reports) Fatalf(string, ...any) { r.fatals++ }

func TestWantAndSame(t *testing.T) {
	r := relation(3, 9, 1, 2)
	others := []api.Relation{relation(3, 9, 2, 1), relation(3, 9, 1), relation(3, 8, 1, 2), {Facts: r.Facts}}
	var got reports
	testkit.Want(&got, "the same", r, r.Kinds, relation(3, 9, 1, 2).Facts)
	testkit.Same(&got, "the same", r, relation(3, 9, 1, 2))
	if got != (reports{}) {
		t.Error("relations that are the same", got)
	}
	for i, o := range others {
		testkit.Want(&got, "others", r, o.Kinds, o.Facts)
		testkit.Same(&got, "others", r, o)
		if got.errors != i+1 || got.fatals != i+1 {
			t.Error("relations that differ", i, got)
		}
	}
}
