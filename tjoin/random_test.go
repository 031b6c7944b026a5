package tjoin_test

import (
	"reflect"
	"slices"
	"testing"

	"bitemporal/allen"
	"bitemporal/api"
	"bitemporal/coalesce"
	"bitemporal/expr"
	"bitemporal/period"
	"bitemporal/project"
	"bitemporal/snapshot"
	"bitemporal/testkit"
	"bitemporal/tjoin"
	"bitemporal/tuple"
	"bitemporal/value"
)

// partnered returns the rows of a bag that have a partner in another one, or those that have none.
func partnered(a, b api.Bag, e api.Expr, want bool) api.Bag {
	result := api.Bag{Kinds: a.Kinds}
	for _, x := range a.Rows {
		has := slices.ContainsFunc(b.Rows, func(y []api.Value) bool { return expr.Eval(e, slices.Concat(x, y)) == value.Bool(true) })
		if has == want {
			result.Rows = append(result.Rows, x)
		}
	}
	return result
}

// TestSequencedForms compares the snapshots of the results with the results for the snapshots.
func TestSequencedForms(t *testing.T) {
	m, number := testkit.New(1), map[string]int{}
	for i := range 12000 {
		a, b := m.Relation(m.Kinds(3), 6), m.Relation(m.Kinds(3), 6)
		if i%10 == 0 {
			b = a
		}
		e := m.Predicate(a.Kinds, b.Kinds)
		before, predicate := testkit.Whole(a, b), expr.Substitute(e, nil)
		check := func(name string, got api.Relation, want func(a, b api.Bag) api.Bag) {
			t.Helper()
			if !testkit.Is(got, func(at int) api.Bag { return want(testkit.Bag(a, at), testkit.Bag(b, at)) }) {
				t.Fatalf("%s of %v and %v on %+v: %v", name, a, b, e, got)
			}
			if testkit.SharesMemory(got, a, b) {
				t.Fatalf("%s of %v and %v shares memory: %v", name, a, b, got)
			}
			number[name] += len(got.Facts)
		}
		check("Join", tjoin.Join(a, b, e), func(x, y api.Bag) api.Bag { return snapshot.Join(x, y, e, false) })
		check("Left", tjoin.Left(a, b, e), func(x, y api.Bag) api.Bag { return snapshot.Join(x, y, e, true) })
		check("Semi", tjoin.Semi(a, b, e), func(x, y api.Bag) api.Bag { return partnered(x, y, e, true) })
		check("Anti", tjoin.Anti(a, b, e), func(x, y api.Bag) api.Bag { return partnered(x, y, e, false) })
		if !reflect.DeepEqual(testkit.Whole(a, b), before) || !expr.Same(e, predicate) {
			t.Fatalf("an argument was changed: %v, %v, %+v", a, b, e)
		}
	}
	for _, name := range []string{"Join", "Left", "Semi", "Anti"} {
		if number[name] < 5000 {
			t.Error("too few facts", number)
		}
	}
}

// someFacts returns facts with any periods and rows.
func someFacts(m *testkit.Maker, most int) []api.Fact {
	l := m.Relation(m.Kinds(2), most).Facts
	for i := range l {
		if m.Chance(5) {
			l[i].Valid = m.AnyPeriod()
		}
		if m.Chance(5) {
			l[i].Row = []api.Value{{Kind: 9, Int: -7, Text: "\n"}}
		}
	}
	return l
}

// TestPairsAgreeWithTheDefinition compares Pairs and Match with a test of every pair.
func TestPairsAgreeWithTheDefinition(t *testing.T) {
	m, seen := testkit.New(2), map[int]int{}
	for i := range 10000 {
		a, b := someFacts(m, 12), someFacts(m, 12)
		if i%10 == 0 {
			b = a
		}
		relations := api.Relation{Facts: a}
		others := api.Relation{Facts: b}
		before := testkit.Whole(relations, others)
		check := func(got []api.Pair, isPair func(p, q api.Period) bool) {
			t.Helper()
			var want []api.Pair
			for i := range a {
				for j := range b {
					if isPair(a[i].Valid, b[j].Valid) {
						want = append(want, api.Pair{A: i, B: j})
					}
				}
			}
			if !slices.Equal(got, want) {
				t.Fatalf("the pairs of %v and %v: %v, want %v", a, b, got, want)
			}
		}
		check(tjoin.Pairs(a, b), period.Overlaps)
		number := 0
		for rel := -1; rel <= api.Relations; rel++ {
			got := tjoin.Match(a, b, rel)
			check(got, func(p, q api.Period) bool { return allen.Holds(rel, p, q) })
			seen[rel] += len(got)
			number += len(got)
		}
		valid := func(f api.Fact) bool { return period.Valid(f.Valid) }
		if all := count(a, valid) * count(b, valid); number != all {
			t.Fatalf("%v and %v: %d pairs are in a relation, not %d", a, b, number, all)
		}
		if !reflect.DeepEqual(testkit.Whole(relations, others), before) {
			t.Fatalf("an argument was changed: %v, %v", a, b)
		}
	}
	for rel := range api.Relations {
		if seen[rel] < 500 {
			t.Error("too few pairs in a relation", seen)
		}
	}
}

func count[E any](l []E, isCounted func(E) bool) int {
	n := 0
	for _, x := range l {
		if isCounted(x) {
			n++
		}
	}
	return n
}

// TestConsequences checks what the chapter says about several joins.
func TestConsequences(t *testing.T) {
	m := testkit.New(3)
	for range 5000 {
		a, b := m.Relation(m.Kinds(3), 6), m.Relation(m.Kinds(3), 6)
		e := m.Predicate(a.Kinds, b.Kinds)
		join, left, semi, anti := tjoin.Join(a, b, e), tjoin.Left(a, b, e), tjoin.Semi(a, b, e), tjoin.Anti(a, b, e)
		if !coalesce.Same(slices.Concat(semi.Facts, anti.Facts), a.Facts) {
			t.Fatalf("the halves of %v with %v on %+v: %v, %v", a, b, e, semi, anti)
		}
		all := slices.Clone(join.Facts)
		for _, f := range anti.Facts {
			all = append(all, api.Fact{Row: tuple.Concat(f.Row, tuple.Nulls(len(b.Kinds))), Valid: f.Valid})
		}
		if !coalesce.Same(left.Facts, all) {
			t.Fatalf("Left of %v and %v on %+v: %v, want %v", a, b, e, left, all)
		}
		var l []api.Expr
		for i := range a.Kinds {
			l = append(l, testkit.Column(len(b.Kinds)+i))
		}
		for i := range b.Kinds {
			l = append(l, testkit.Column(i))
		}
		exchanged := project.Project(tjoin.Join(b, a, expr.Substitute(e, l)), l)
		if !slices.Equal(exchanged.Kinds, join.Kinds) || !testkit.Identical(exchanged.Facts, join.Facts) {
			t.Fatalf("Join of %v and %v on %+v: %v, exchanged %v", a, b, e, join, exchanged)
		}
		var either []api.Pair
		for rel := range api.Relations {
			if rel != api.Before && rel != api.Meets && rel != api.MetBy && rel != api.After {
				either = append(either, tjoin.Match(a.Facts, b.Facts, rel)...)
			}
		}
		slices.SortFunc(either, func(p, q api.Pair) int {
			if p.A != q.A {
				return p.A - q.A
			}
			return p.B - q.B
		})
		if got := tjoin.Pairs(a.Facts, b.Facts); !slices.Equal(got, either) {
			t.Fatalf("Pairs of %v and %v: %v, want %v", a, b, got, either)
		}
	}
}

// TestAnyArguments calls the joins with arguments for which nothing is promised but that they return.
func TestAnyArguments(t *testing.T) {
	m := testkit.New(4)
	for range 10000 {
		a, b := m.AnyRelation(4), m.AnyRelation(4)
		e := m.Predicate(m.Kinds(4), m.Kinds(4))
		switch m.Below(4) {
		case 0:
			e.Op, e.Int = m.AnyNumber(), m.AnyNumber()
		case 1:
			e = compared(api.OpEq, m.AnyNumber(), m.AnyNumber())
		}
		for _, got := range []api.Relation{tjoin.Join(a, b, e), tjoin.Left(a, b, e), tjoin.Semi(a, b, e), tjoin.Anti(a, b, e)} {
			if !coalesce.Canonical(got.Facts) || testkit.SharesMemory(got, a, b) {
				t.Fatal(got, a, b)
			}
		}
	}
}

// TestManyFacts would take minutes if time grew with the product of the numbers of facts.
func TestManyFacts(t *testing.T) {
	const n = 100000
	var after, nested, keyed, unkeyed []api.Fact
	for i := range n {
		after = append(after, fact(3*i, 3*i+2))
		nested = append(nested, fact(i, forever-i))
		keyed = append(keyed, fact(i, forever-i, i))
		unkeyed = append(unkeyed, fact(i, forever-i, nil))
	}
	if got := tjoin.Pairs(after, after); len(got) != n || got[n-1] != (api.Pair{A: n - 1, B: n - 1}) {
		t.Error("Pairs", len(got))
	}
	withAll := append(facts(fact(0, forever)), after...)
	if got := tjoin.Pairs(after, withAll); len(got) != 2*n {
		t.Error("Pairs with a long period in the second list", len(got))
	}
	if got := tjoin.Pairs(withAll, after); len(got) != 2*n {
		t.Error("Pairs with a long period in the first list", len(got))
	}
	for rel, want := range map[int]int{api.Equals: n, api.Meets: 0, api.MetBy: 0, api.Starts: 0, api.StartedBy: 0, api.Finishes: 0, api.FinishedBy: 0, api.Before: 0, api.After: 0} {
		if got := tjoin.Match(nested, nested, rel); len(got) != want {
			t.Error("Match", rel, len(got))
		}
	}
	equal := compared(api.OpEq, 0, 1)
	a, b := numbers(keyed...), numbers(keyed[n/2:]...)
	for i, x := range []struct {
		got  api.Relation
		want int
	}{
		{tjoin.Join(a, b, equal), n / 2}, {tjoin.Left(a, b, equal), n}, {tjoin.Semi(a, b, equal), n / 2}, {tjoin.Anti(a, b, equal), n / 2},
		{tjoin.Join(numbers(unkeyed...), numbers(unkeyed...), equal), 0},
	} {
		if len(x.got.Facts) != x.want {
			t.Error("case", i, len(x.got.Facts))
		}
	}
}
