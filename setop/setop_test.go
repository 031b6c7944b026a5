package setop_test

import (
	"slices"
	"testing"

	"bitemporal/api"
	"bitemporal/setop"
	"bitemporal/testkit"
)

const forever = api.Forever

func fact(from, to int, row ...any) api.Fact { return testkit.Fact(from, to, row...) }

func facts(l ...api.Fact) []api.Fact { return l }

func numbers(columns int, l ...api.Fact) api.Relation { return testkit.Numbers(columns, l...) }

// results are the results of the operations that count rows, for two relations; distinct is that for the first one.
type results struct{ union, except, intersect, distinct []api.Fact }

func testCounts(t *testing.T, name string, a, b api.Relation, want results) {
	t.Helper()
	testkit.Want(t, "Union, "+name, setop.Union(a, b), a.Kinds, want.union)
	testkit.Want(t, "Except, "+name, setop.Except(a, b), a.Kinds, want.except)
	testkit.Want(t, "Intersect, "+name, setop.Intersect(a, b), a.Kinds, want.intersect)
	testkit.Want(t, "Distinct, "+name, setop.Distinct(a), a.Kinds, want.distinct)
}

func TestCounts(t *testing.T) {
	a := numbers(1, fact(0, 9, 1), fact(2, 5, 1))
	b := numbers(1, fact(4, 7, 1))
	testCounts(t, "the example", a, b, results{
		facts(fact(0, 9, 1), fact(2, 7, 1), fact(4, 5, 1)), facts(fact(0, 5, 1), fact(2, 4, 1), fact(7, 9, 1)), facts(fact(4, 7, 1)), facts(fact(0, 9, 1)),
	})
	testCounts(t, "the example exchanged", b, a, results{
		facts(fact(0, 9, 1), fact(2, 7, 1), fact(4, 5, 1)), nil, facts(fact(4, 7, 1)), facts(fact(4, 7, 1)),
	})
	testCounts(t, "a relation and itself", a, a, results{
		facts(fact(0, 9, 1), fact(0, 9, 1), fact(2, 5, 1), fact(2, 5, 1)), nil, a.Facts, facts(fact(0, 9, 1)),
	})
	empty := numbers(1)
	testCounts(t, "a second relation without facts", a, empty, results{a.Facts, a.Facts, nil, facts(fact(0, 9, 1))})
	testCounts(t, "a first relation without facts", empty, a, results{a.Facts, nil, nil, nil})
	testCounts(t, "no facts", empty, empty, results{})
	testCounts(t, "facts that meet", numbers(1, fact(5, forever, 1), fact(0, 3, 1)), numbers(1, fact(3, 5, 1)), results{
		facts(fact(0, forever, 1)), facts(fact(0, 3, 1), fact(5, forever, 1)), nil, facts(fact(0, 3, 1), fact(5, forever, 1)),
	})
	testCounts(t, "more in the second relation", numbers(1, fact(2, 6, 1)), numbers(1, fact(0, 4, 1), fact(0, 4, 1), fact(3, 8, 1)), results{
		facts(fact(0, 6, 1), fact(0, 8, 1), fact(2, 4, 1), fact(3, 4, 1)), nil, facts(fact(2, 6, 1)), facts(fact(2, 6, 1)),
	})
	testCounts(t, "different rows", numbers(1, fact(0, 4, 3), fact(0, 4, 1)), numbers(1, fact(0, 4, 2), fact(2, 6, 3)), results{
		facts(fact(0, 4, 1), fact(0, 4, 2), fact(0, 6, 3), fact(2, 4, 3)), facts(fact(0, 4, 1), fact(0, 2, 3)), facts(fact(2, 4, 3)), facts(fact(0, 4, 1), fact(0, 4, 3)),
	})
	kinds := []int{api.KindText, api.KindBool}
	nulls := api.Relation{Kinds: kinds, Facts: facts(fact(0, 4, nil, true), fact(0, 4, "1", nil), fact(2, 6, nil, true))}
	others := api.Relation{Kinds: kinds, Facts: facts(fact(1, 5, nil, true), fact(1, 5, "", nil), fact(1, 5, nil, nil))}
	testCounts(t, "nulls, which are the same", nulls, others, results{
		facts(fact(1, 5, nil, nil), fact(0, 6, nil, true), fact(1, 5, nil, true), fact(2, 4, nil, true), fact(1, 5, "", nil), fact(0, 4, "1", nil)),
		facts(fact(0, 1, nil, true), fact(2, 4, nil, true), fact(5, 6, nil, true), fact(0, 4, "1", nil)),
		facts(fact(1, 5, nil, true)),
		facts(fact(0, 6, nil, true), fact(0, 4, "1", nil)),
	})
}

func TestDivide(t *testing.T) {
	one := []int{api.KindInt}
	a := numbers(2, fact(0, 6, 1, 5), fact(3, 9, 1, 6), fact(0, 9, 2, 5))
	b := numbers(1, fact(1, 9, 5), fact(4, 8, 6))
	twice := func(r api.Relation) api.Relation {
		return api.Relation{Kinds: r.Kinds, Facts: slices.Concat(r.Facts, r.Facts)}
	}
	divided := func(b ...api.Fact) api.Relation { return setop.Divide(a, numbers(1, b...)) }
	mixed := api.Relation{Kinds: []int{api.KindText, api.KindInt, api.KindBool, api.KindInt}, Facts: facts(
		fact(0, 5, "x", nil, true, 7), fact(0, 5, "x", 0, true, 7), fact(0, 5, nil, nil, true, 7), fact(3, 9, "x", nil, nil, nil), fact(4, 9, nil, nil, nil, nil),
	)}
	testkit.Want(t, "the example", setop.Divide(a, b), one, facts(fact(0, 6, 1), fact(0, 4, 2), fact(8, 9, 2)))
	testkit.Want(t, "duplicates in the first relation", setop.Divide(twice(a), b), one, facts(fact(0, 6, 1), fact(0, 4, 2), fact(8, 9, 2)))
	testkit.Want(t, "duplicates in the second relation", setop.Divide(a, twice(b)), one, facts(fact(0, 6, 1), fact(0, 4, 2), fact(8, 9, 2)))
	testkit.Want(t, "duplicates in both relations", setop.Divide(twice(a), twice(b)), one, facts(fact(0, 6, 1), fact(0, 4, 2), fact(8, 9, 2)))
	testkit.Want(t, "no rows to divide by", divided(), one, facts(fact(0, 9, 1), fact(0, 9, 2)))
	testkit.Want(t, "nothing to divide", setop.Divide(numbers(2), b), one, nil)
	testkit.Want(t, "nothing at all", setop.Divide(numbers(2), numbers(1)), one, nil)
	testkit.Want(t, "a row that no head has", divided(fact(2, 4, 7)), one, facts(fact(0, 2, 1), fact(4, 9, 1), fact(0, 2, 2), fact(4, 9, 2)))
	testkit.Want(t, "a row that no head has, at all times", divided(fact(0, forever, 7)), one, nil)
	testkit.Want(t, "a row for all of time", divided(fact(0, forever, 5)), one, facts(fact(0, 6, 1), fact(0, 9, 2)))
	testkit.Want(t, "a null", divided(fact(3, 4, nil)), one, facts(fact(0, 3, 1), fact(4, 9, 1), fact(0, 3, 2), fact(4, 9, 2)))
	testkit.Want(t, "rows that follow each other", divided(fact(0, 4, 5), fact(4, 9, 6)), one, facts(fact(0, 9, 1), fact(0, 4, 2)))
	testkit.Want(t, "rows that overlap", divided(fact(0, 4, 5), fact(2, 9, 6)), one, facts(fact(0, 2, 1), fact(3, 9, 1), fact(0, 2, 2)))
	testkit.Want(t, "periods that overlap", divided(fact(4, 7, 5), fact(5, 8, 5)), one, facts(fact(0, 6, 1), fact(8, 9, 1), fact(0, 9, 2)))
	testkit.Want(t, "a head that is interrupted", setop.Divide(numbers(2, fact(0, 3, 1, 5), fact(5, forever, 1, 5)), b), one, facts(fact(0, 3, 1), fact(8, forever, 1)))
	testkit.Want(t, "mixed kinds", setop.Divide(mixed, api.Relation{Kinds: mixed.Kinds[2:], Facts: facts(fact(2, 4, true, 7), fact(4, 8, nil, nil))}), mixed.Kinds[:2], facts(
		fact(0, 9, nil, nil), fact(0, 9, "x", nil), fact(0, 4, "x", 0),
	))
	testkit.Want(t, "a longer tail", setop.Divide(mixed, api.Relation{Kinds: mixed.Kinds[1:], Facts: facts(fact(2, 6, nil, nil, nil))}), mixed.Kinds[:1], facts(
		fact(0, 2, nil), fact(4, 9, nil), fact(0, 2, "x"), fact(3, 9, "x"),
	))
}
