package testkit_test

import (
	"slices"
	"testing"

	"bitemporal/api"
	"bitemporal/coalesce"
	"bitemporal/expr"
	"bitemporal/period"
	"bitemporal/testkit"
	"bitemporal/tuple"
)

// TestPredicates checks that predicates are often true, but not always.
func TestPredicates(t *testing.T) {
	m, seen := testkit.New(7), map[int]int{}
	for range 10000 {
		kinds := m.Kinds(4)
		for _, row := range m.Rows(kinds, 3) {
			seen[expr.Truth(m.Predicate(kinds, nil), row)]++
		}
	}
	for _, truth := range []int{api.False, api.Unknown, api.True} {
		if seen[truth] < 1000 {
			t.Error(seen)
		}
	}
}

func TestExpressionsHaveTheirKind(t *testing.T) {
	m := testkit.New(1)
	for range 10000 {
		kinds, kind := m.Kinds(4), m.Kind()
		e := m.Expr(kinds, kind, m.Below(4))
		if got, err := expr.Check(e, kinds); err != api.OK || got != kind {
			t.Fatal(e, kinds, got, err)
		}
		if got, err := expr.Check(m.Predicate(kinds, nil), kinds); err != api.OK || got != api.KindBool && got != api.KindNull {
			t.Fatal(e, kinds, got, err)
		}
	}
}

func TestRelations(t *testing.T) {
	m, repeated, valid := testkit.New(2), 0, map[bool]int{}
	for range 10000 {
		r := m.Relation(m.Kinds(3), 8)
		for _, f := range r.Facts {
			if !tuple.Fits(f.Row, r.Kinds) || !period.Valid(f.Valid) {
				t.Fatal(r)
			}
		}
		if !coalesce.Same(r.Facts, coalesce.Set(r.Facts)) {
			repeated++
		}
		valid[period.Valid(m.AnyPeriod())]++
	}
	if repeated < 3000 || repeated > 7000 || valid[true] < 2000 || valid[false] < 2000 {
		t.Error(repeated, valid)
	}
}

func relation(from, to int, rows ...int) api.Relation {
	r := api.Relation{Kinds: []int{api.KindInt}}
	for _, n := range rows {
		r.Facts = append(r.Facts, api.Fact{Row: []api.Value{{Kind: api.KindInt, Int: n}}, Valid: api.Period{From: from, To: to}})
	}
	return r
}

func TestIs(t *testing.T) {
	r := relation(3, 9, 1, 2)
	is := func(other api.Relation) bool {
		return testkit.Is(r, func(at int) api.Bag { return testkit.Bag(other, at) })
	}
	if !is(r) || is(relation(3, 9, 1)) || is(relation(4, 9, 1, 2)) || is(relation(3, 10, 1, 2)) || is(api.Relation{Facts: r.Facts}) {
		t.Error("the kinds or the snapshots are not compared")
	}
	if !testkit.Identical(r.Facts, relation(3, 9, 1, 2).Facts) || testkit.Identical(r.Facts, relation(3, 9, 1).Facts) || testkit.Identical(r.Facts, relation(3, 9, 1, 1).Facts) || testkit.Identical(r.Facts, relation(2, 9, 1, 2).Facts) {
		t.Error("Identical")
	}
	slices.Reverse(r.Facts)
	if is(r) {
		t.Error("the form is not compared")
	}
}

func TestMemory(t *testing.T) {
	r := testkit.New(3).Relation([]int{api.KindInt, api.KindText}, 9)
	copied := testkit.Whole(r)[0]
	row := slices.Clone(copied.Facts)
	row[0].Row = r.Facts[0].Row
	if testkit.SharesMemory(copied, r) || testkit.SharesMemory(r) {
		t.Error("memory that is not shared")
	}
	for i, shared := range []api.Relation{r, {Kinds: r.Kinds[:0]}, {Facts: r.Facts[:0]}, {Facts: row}} {
		if !testkit.SharesMemory(shared, copied, r) {
			t.Error("shared memory", i)
		}
	}
	if !testkit.SharesMemory(api.Relation{Facts: []api.Fact{r.Facts[0], r.Facts[0]}}) {
		t.Error("memory that rows share")
	}
	if got := testkit.Whole(r)[0]; len(got.Kinds) <= len(r.Kinds) || len(got.Facts) <= len(r.Facts) || len(got.Facts[0].Row) <= len(r.Facts[0].Row) {
		t.Error(got)
	}
}
