package setop_test

import (
	"reflect"
	"slices"
	"testing"

	"bitemporal/api"
	"bitemporal/coalesce"
	"bitemporal/setop"
	"bitemporal/snapshot"
	"bitemporal/testkit"
	"bitemporal/tuple"
)

// similar returns relations with the same kinds and many equal rows.
func similar(m *testkit.Maker, n int) []api.Relation {
	kinds := m.Kinds(2)
	rows := m.Relation(kinds, 3).Facts
	var l []api.Relation
	for range n {
		r := m.Relation(kinds, 6)
		for i := range r.Facts {
			if len(rows) > 0 && !m.Chance(3) {
				copy(r.Facts[i].Row, rows[m.Below(len(rows))].Row)
			}
		}
		l = append(l, r)
	}
	return l
}

// product returns a relation with some pairs of heads and tails, and one with some of the tails.
func product(m *testkit.Maker) (a, b api.Relation) {
	b = m.Relation(m.Kinds(2), 3)
	heads := m.Relation(m.Kinds(2), 3)
	a.Kinds = slices.Concat(heads.Kinds, b.Kinds)
	for _, h := range heads.Facts {
		for _, t := range b.Facts {
			for m.Below(3) > 0 {
				row := append(slices.Concat(h.Row, t.Row), api.Value{Kind: -7})
				valid := []api.Period{h.Valid, t.Valid, m.Period()}[m.Below(3)]
				a.Facts = append(a.Facts, api.Fact{Row: row[:len(a.Kinds)], Valid: valid})
			}
		}
	}
	a.Facts = append(a.Facts, m.Relation(a.Kinds, 1).Facts...)
	return a, b
}

// quotient returns the heads that are combined with all rows of b.
func quotient(a, b api.Bag) api.Bag {
	columns := len(a.Kinds) - len(b.Kinds)
	var heads [][]api.Value
	for _, row := range a.Rows {
		head := row[:columns]
		isIn := func(row []api.Value) bool {
			return slices.ContainsFunc(a.Rows, func(x []api.Value) bool { return slices.Equal(x, row) })
		}
		if !slices.ContainsFunc(b.Rows, func(tail []api.Value) bool { return !isIn(slices.Concat(head, tail)) }) {
			heads = append(heads, head)
		}
	}
	return api.Bag{Kinds: a.Kinds[:columns], Rows: tuple.Distinct(heads)}
}

// checker returns a function that compares a result with what its snapshots should be, and counts its facts.
func checker(t *testing.T, number map[string]int, a, b api.Relation) func(name string, got api.Relation, want func(a, b api.Bag) api.Bag) {
	before := testkit.Whole(a, b)
	return func(name string, got api.Relation, want func(a, b api.Bag) api.Bag) {
		t.Helper()
		if !testkit.Is(got, func(at int) api.Bag { return want(testkit.Bag(a, at), testkit.Bag(b, at)) }) {
			t.Fatalf("%s of %v and %v: %v", name, a, b, got)
		}
		if testkit.SharesMemory(got, a, b) {
			t.Fatalf("%s of %v and %v shares memory: %v", name, a, b, got)
		}
		if !reflect.DeepEqual(testkit.Whole(a, b), before) {
			t.Fatalf("%s: an argument was changed: %v, %v", name, a, b)
		}
		number[name] += len(got.Facts)
	}
}

// TestSequencedForms compares the snapshots of the results with the results for the snapshots.
func TestSequencedForms(t *testing.T) {
	m, number := testkit.New(1), map[string]int{}
	for i := range 10000 {
		l := similar(m, 2)
		a, b := l[0], l[1]
		if i%10 == 0 {
			b = a
		}
		check := checker(t, number, a, b)
		check("Union", setop.Union(a, b), snapshot.Union)
		check("Except", setop.Except(a, b), snapshot.Except)
		check("Intersect", setop.Intersect(a, b), snapshot.Intersect)
		check("Distinct", setop.Distinct(a), func(x, _ api.Bag) api.Bag { return snapshot.Distinct(x) })
	}
	for i := range 10000 {
		a, b := product(m)
		if i%10 == 0 {
			a = m.Relation(a.Kinds, 6)
		}
		check := checker(t, number, a, b)
		check("Divide", setop.Divide(a, b), quotient)
		check("Divide without effect", setop.Divide(a, api.Relation{Kinds: b.Kinds}), func(x, _ api.Bag) api.Bag { return quotient(x, api.Bag{Kinds: b.Kinds}) })
	}
	for _, name := range []string{"Union", "Except", "Intersect", "Distinct", "Divide"} {
		if number[name] < 8000 {
			t.Error("too few facts", number)
		}
	}
}

// TestConsequences checks what the chapter says about several calls.
func TestConsequences(t *testing.T) {
	m := testkit.New(2)
	for range 5000 {
		l := similar(m, 3)
		a, b, c := l[0], l[1], l[2]
		testkit.Same(t, "Union exchanged", setop.Union(a, b), setop.Union(b, a))
		testkit.Same(t, "Intersect exchanged", setop.Intersect(a, b), setop.Intersect(b, a))
		testkit.Same(t, "Union of three", setop.Union(setop.Union(a, b), c), setop.Union(a, setop.Union(b, c)))
		testkit.Same(t, "Intersect of three", setop.Intersect(setop.Intersect(a, b), c), setop.Intersect(a, setop.Intersect(b, c)))
		testkit.Same(t, "Intersect as a difference", setop.Intersect(a, b), setop.Except(a, setop.Except(a, b)))
		testkit.Same(t, "two differences", setop.Except(a, setop.Union(b, c)), setop.Except(setop.Except(a, b), c))
		testkit.Same(t, "the parts of a relation", setop.Union(setop.Except(a, b), setop.Intersect(a, b)), api.Relation{Kinds: a.Kinds, Facts: coalesce.Bag(a.Facts)})
		testkit.Same(t, "Distinct twice", setop.Distinct(setop.Distinct(a)), setop.Distinct(a))
		testkit.Same(t, "Distinct without the relation", setop.Except(setop.Distinct(a), a), api.Relation{Kinds: a.Kinds})
		testkit.Same(t, "Distinct of a union", setop.Distinct(setop.Union(a, b)), setop.Distinct(setop.Union(setop.Distinct(a), setop.Distinct(b))))
	}
	for range 5000 {
		a, b := product(m)
		q := setop.Divide(a, b)
		testkit.Same(t, "Divide without duplicates", setop.Divide(setop.Distinct(a), setop.Distinct(b)), q)
		testkit.Same(t, "Divide with duplicates", setop.Divide(setop.Union(a, a), setop.Union(b, b)), q)
		combined := api.Relation{Kinds: a.Kinds}
		for _, h := range q.Facts {
			for _, f := range coalesce.Restrict(coalesce.Set(b.Facts), h.Valid) {
				combined.Facts = append(combined.Facts, api.Fact{Row: tuple.Concat(h.Row, f.Row), Valid: f.Valid})
			}
		}
		testkit.Same(t, "rows of heads and tails", setop.Except(combined, setop.Distinct(a)), api.Relation{Kinds: a.Kinds})
	}
}

// TestEquivalentRelations checks that the results do not depend on the lists that stand for relations.
func TestEquivalentRelations(t *testing.T) {
	m := testkit.New(3)
	for range 4000 {
		l := similar(m, 2)
		x, y := product(m)
		results := func(a, b, x, y api.Relation) []api.Relation {
			return []api.Relation{setop.Union(a, b), setop.Except(a, b), setop.Intersect(a, b), setop.Distinct(a), setop.Divide(x, y)}
		}
		want, got := results(l[0], l[1], x, y), results(m.Equivalent(l[0]), m.Equivalent(l[1]), m.Equivalent(x), m.Equivalent(y))
		for i := range want {
			testkit.Same(t, "equivalent relations", got[i], want[i])
		}
	}
}

// TestAnyArguments calls the functions with arguments for which nothing is promised but that they return.
func TestAnyArguments(t *testing.T) {
	m := testkit.New(4)
	for i := range 10000 {
		a, b := m.AnyRelation(4), m.AnyRelation(4)
		if i%10 == 0 {
			a.Kinds = nil
		}
		if i%15 == 0 {
			b = api.Relation{}
		}
		for _, got := range []api.Relation{setop.Union(a, b), setop.Except(a, b), setop.Intersect(a, b), setop.Distinct(a), setop.Divide(a, b)} {
			if !coalesce.Canonical(got.Facts) || testkit.SharesMemory(got, a, b) {
				t.Fatal(got, a, b)
			}
		}
	}
}

// TestManyFacts would take minutes if time grew with the product of the numbers of facts.
func TestManyFacts(t *testing.T) {
	const n = 100000
	var a, b, pairs, long, paired, brief []api.Fact
	for i := range n {
		a = append(a, fact(i, i+3, 1), fact(i, forever, i))
		b = append(b, fact(i, i+1, 1), fact(i, forever, 2*i))
		pairs = append(pairs, fact(2*i, 2*i+3, i, i))
		long = append(long, fact(0, forever, i, i))
		paired = append(paired, fact(2*i, 2*i+1, 1, i))
		brief = append(brief, fact(2*i, 2*i+1, i))
	}
	x, y := numbers(1, a...), numbers(1, b...)
	withOneMore := append(facts(fact(0, forever, -1)), brief...)
	for i, c := range []struct {
		got  api.Relation
		want int
	}{
		{setop.Union(x, y), 2*n + 4},
		{setop.Except(x, y), n/2 + 2},
		{setop.Intersect(x, y), n/2 + 1},
		{setop.Distinct(x), n},
		{setop.Divide(numbers(2, pairs...), numbers(1, brief...)), n},
		{setop.Divide(numbers(2, long...), numbers(1, withOneMore...)), 0},
		{setop.Divide(numbers(2, paired...), numbers(1, brief...)), n},
		{setop.Divide(numbers(2, paired...), numbers(1, fact(0, forever, 0))), 1},
		{setop.Divide(numbers(2, long...), numbers(1, fact(0, n, n/2))), n},
	} {
		if len(c.got.Facts) != c.want {
			t.Error("case", i, len(c.got.Facts))
		}
	}
}
