package tjoin_test

import (
	"math"
	"slices"
	"testing"

	"bitemporal/api"
	"bitemporal/testkit"
	"bitemporal/tjoin"
	"bitemporal/value"
)

const forever = api.Forever

func fact(from, to int, row ...any) api.Fact { return testkit.Fact(from, to, row...) }

func facts(l ...api.Fact) []api.Fact { return l }

func kinds(l ...int) []int { return l }

// numbers returns a relation with one column of integers.
func numbers(l ...api.Fact) api.Relation { return testkit.Numbers(1, l...) }

func constant(v api.Value) api.Expr { return testkit.Constant(v) }

// compared returns a comparison of two columns.
func compared(op, i, j int) api.Expr {
	return testkit.Operation(op, testkit.Column(i), testkit.Column(j))
}

// joins are the results of the four joins of two relations.
type joins struct{ join, left, semi, anti []api.Fact }

func testJoins(t *testing.T, name string, a, b api.Relation, e api.Expr, want joins) {
	t.Helper()
	both := slices.Concat(a.Kinds, b.Kinds)
	testkit.Want(t, name+", Join", tjoin.Join(a, b, e), both, want.join)
	testkit.Want(t, name+", Left", tjoin.Left(a, b, e), both, want.left)
	testkit.Want(t, name+", Semi", tjoin.Semi(a, b, e), a.Kinds, want.semi)
	testkit.Want(t, name+", Anti", tjoin.Anti(a, b, e), a.Kinds, want.anti)
}

func TestJoins(t *testing.T) {
	a := numbers(fact(0, 6, 1), fact(3, 9, 2))
	b := numbers(fact(4, 8, 1), fact(5, 7, 1))
	yes, no := constant(value.Bool(true)), constant(value.Bool(false))
	testJoins(t, "an equation", a, b, compared(api.OpEq, 0, 1), joins{
		facts(fact(4, 6, 1, 1), fact(5, 6, 1, 1)),
		facts(fact(0, 4, 1, nil), fact(4, 6, 1, 1), fact(5, 6, 1, 1), fact(3, 9, 2, nil)),
		facts(fact(4, 6, 1)), facts(fact(0, 4, 1), fact(3, 9, 2)),
	})
	testJoins(t, "a comparison", a, b, compared(api.OpGt, 0, 1), joins{
		facts(fact(4, 8, 2, 1), fact(5, 7, 2, 1)),
		facts(fact(0, 6, 1, nil), fact(3, 4, 2, nil), fact(8, 9, 2, nil), fact(4, 8, 2, 1), fact(5, 7, 2, 1)),
		facts(fact(4, 8, 2)), facts(fact(0, 6, 1), fact(3, 4, 2), fact(8, 9, 2)),
	})
	testJoins(t, "TRUE", a, b, yes, joins{
		facts(fact(4, 6, 1, 1), fact(5, 6, 1, 1), fact(4, 8, 2, 1), fact(5, 7, 2, 1)),
		facts(fact(0, 4, 1, nil), fact(4, 6, 1, 1), fact(5, 6, 1, 1), fact(3, 4, 2, nil), fact(8, 9, 2, nil), fact(4, 8, 2, 1), fact(5, 7, 2, 1)),
		facts(fact(4, 6, 1), fact(4, 8, 2)), facts(fact(0, 4, 1), fact(3, 4, 2), fact(8, 9, 2)),
	})
	none := joins{nil, facts(fact(0, 6, 1, nil), fact(3, 9, 2, nil)), nil, a.Facts}
	testJoins(t, "FALSE", a, b, no, none)
	testJoins(t, "NULL", a, b, constant(value.Null()), none)
	testJoins(t, "no partners", a, numbers(), yes, none)
	testJoins(t, "no facts", numbers(), b, yes, joins{})
	testJoins(t, "nothing", numbers(), numbers(), yes, joins{})
}

func TestJoinsWithBoundsInCommon(t *testing.T) {
	yes := constant(value.Bool(true))
	a := numbers(fact(3, 6, 1))
	testJoins(t, "adjacent periods", a, numbers(fact(0, 3, 7), fact(6, 9, 8)), yes, joins{
		nil, facts(fact(3, 6, 1, nil)), nil, a.Facts,
	})
	testJoins(t, "one instant at each end", a, numbers(fact(0, 4, 7), fact(5, 9, 8)), yes, joins{
		facts(fact(3, 4, 1, 7), fact(5, 6, 1, 8)), facts(fact(4, 5, 1, nil), fact(3, 4, 1, 7), fact(5, 6, 1, 8)),
		facts(fact(3, 4, 1), fact(5, 6, 1)), facts(fact(4, 5, 1)),
	})
	testJoins(t, "the same period", a, numbers(fact(3, 6, 7)), yes, joins{
		facts(fact(3, 6, 1, 7)), facts(fact(3, 6, 1, 7)), a.Facts, nil,
	})
	testJoins(t, "partners one after the other", a, numbers(fact(4, 5, 9), fact(3, 4, 8), fact(5, 7, 7)), yes, joins{
		facts(fact(5, 6, 1, 7), fact(3, 4, 1, 8), fact(4, 5, 1, 9)), facts(fact(5, 6, 1, 7), fact(3, 4, 1, 8), fact(4, 5, 1, 9)), a.Facts, nil,
	})
	testJoins(t, "the same row one after the other", numbers(fact(0, 4, 1), fact(4, forever, 1)), numbers(fact(0, 7, 7), fact(7, forever, 7)), yes, joins{
		facts(fact(0, forever, 1, 7)), facts(fact(0, forever, 1, 7)), facts(fact(0, forever, 1)), nil,
	})
	testJoins(t, "all of time", numbers(fact(0, forever, 1)), numbers(fact(forever-1, forever, 7), fact(0, 1, 7)), yes, joins{
		facts(fact(0, 1, 1, 7), fact(forever-1, forever, 1, 7)),
		facts(fact(1, forever-1, 1, nil), fact(0, 1, 1, 7), fact(forever-1, forever, 1, 7)),
		facts(fact(0, 1, 1), fact(forever-1, forever, 1)), facts(fact(1, forever-1, 1)),
	})
}

func TestJoinsWithDuplicates(t *testing.T) {
	a := numbers(fact(0, 8, 1), fact(2, 5, 1), fact(0, 8, 2), fact(0, 8, 2))
	b := numbers(fact(4, 6, 1), fact(4, 6, 1), fact(7, 9, 2))
	testJoins(t, "rows that are valid twice", a, b, compared(api.OpEq, 0, 1), joins{
		facts(fact(4, 5, 1, 1), fact(4, 5, 1, 1), fact(4, 6, 1, 1), fact(4, 6, 1, 1), fact(7, 8, 2, 2), fact(7, 8, 2, 2)),
		facts(fact(0, 4, 1, nil), fact(2, 4, 1, nil), fact(6, 8, 1, nil), fact(4, 5, 1, 1), fact(4, 5, 1, 1), fact(4, 6, 1, 1), fact(4, 6, 1, 1), fact(0, 7, 2, nil), fact(0, 7, 2, nil), fact(7, 8, 2, 2), fact(7, 8, 2, 2)),
		facts(fact(4, 5, 1), fact(4, 6, 1), fact(7, 8, 2), fact(7, 8, 2)),
		facts(fact(0, 4, 1), fact(2, 4, 1), fact(6, 8, 1), fact(0, 7, 2), fact(0, 7, 2)),
	})
}

// TestJoinsWithNulls checks that a null is equal to nothing, but may have a partner for other reasons.
func TestJoinsWithNulls(t *testing.T) {
	a := numbers(fact(0, 8, nil), fact(0, 8, 1))
	b := numbers(fact(0, 8, nil), fact(0, 8, 1))
	testJoins(t, "an equation", a, b, compared(api.OpEq, 0, 1), joins{
		facts(fact(0, 8, 1, 1)), facts(fact(0, 8, nil, nil), fact(0, 8, 1, 1)), facts(fact(0, 8, 1)), facts(fact(0, 8, nil)),
	})
	isNull := testkit.Operation(api.OpIsNull, testkit.Column(1))
	testJoins(t, "a partner without values", a, b, isNull, joins{
		facts(fact(0, 8, nil, nil), fact(0, 8, 1, nil)), facts(fact(0, 8, nil, nil), fact(0, 8, 1, nil)), a.Facts, nil,
	})
	either := testkit.Operation(api.OpOr, compared(api.OpEq, 0, 1), isNull)
	testJoins(t, "an equation or not", a, b, either, joins{
		facts(fact(0, 8, nil, nil), fact(0, 8, 1, nil), fact(0, 8, 1, 1)), facts(fact(0, 8, nil, nil), fact(0, 8, 1, nil), fact(0, 8, 1, 1)), a.Facts, nil,
	})
	testJoins(t, "a comparison", a, b, compared(api.OpLe, 0, 1), joins{
		facts(fact(0, 8, 1, 1)), facts(fact(0, 8, nil, nil), fact(0, 8, 1, 1)), facts(fact(0, 8, 1)), facts(fact(0, 8, nil)),
	})
}

// TestJoinsWithSeveralColumns joins relations with different kinds by equations of any columns, and by others within one relation.
func TestJoinsWithSeveralColumns(t *testing.T) {
	a := api.Relation{Kinds: kinds(api.KindInt, api.KindText), Facts: facts(fact(0, 9, 1, "x"), fact(0, 9, 1, "y"), fact(0, 9, 2, "x"))}
	b := api.Relation{Kinds: kinds(api.KindText, api.KindBool, api.KindInt), Facts: facts(fact(1, 3, "x", true, 1), fact(2, 4, "x", false, 1), fact(5, 7, "y", true, 2), fact(6, 8, "x", true, 2))}
	both := testkit.Operation(api.OpAnd, compared(api.OpEq, 4, 0), compared(api.OpEq, 1, 2))
	testJoins(t, "two equations", a, b, both, joins{
		facts(fact(2, 4, 1, "x", "x", false, 1), fact(1, 3, 1, "x", "x", true, 1), fact(6, 8, 2, "x", "x", true, 2)),
		facts(fact(0, 1, 1, "x", nil, nil, nil), fact(4, 9, 1, "x", nil, nil, nil), fact(2, 4, 1, "x", "x", false, 1), fact(1, 3, 1, "x", "x", true, 1), fact(0, 9, 1, "y", nil, nil, nil), fact(0, 6, 2, "x", nil, nil, nil), fact(8, 9, 2, "x", nil, nil, nil), fact(6, 8, 2, "x", "x", true, 2)),
		facts(fact(1, 4, 1, "x"), fact(6, 8, 2, "x")),
		facts(fact(0, 1, 1, "x"), fact(4, 9, 1, "x"), fact(0, 9, 1, "y"), fact(0, 6, 2, "x"), fact(8, 9, 2, "x")),
	})
	testJoins(t, "an equation and a column", a, b, testkit.Operation(api.OpAnd, testkit.Column(3), compared(api.OpEq, 0, 4)), joins{
		facts(fact(1, 3, 1, "x", "x", true, 1), fact(1, 3, 1, "y", "x", true, 1), fact(6, 8, 2, "x", "x", true, 2), fact(5, 7, 2, "x", "y", true, 2)),
		facts(fact(0, 1, 1, "x", nil, nil, nil), fact(3, 9, 1, "x", nil, nil, nil), fact(1, 3, 1, "x", "x", true, 1), fact(0, 1, 1, "y", nil, nil, nil), fact(3, 9, 1, "y", nil, nil, nil), fact(1, 3, 1, "y", "x", true, 1), fact(0, 5, 2, "x", nil, nil, nil), fact(8, 9, 2, "x", nil, nil, nil), fact(6, 8, 2, "x", "x", true, 2), fact(5, 7, 2, "x", "y", true, 2)),
		facts(fact(1, 3, 1, "x"), fact(1, 3, 1, "y"), fact(5, 8, 2, "x")),
		facts(fact(0, 1, 1, "x"), fact(3, 9, 1, "x"), fact(0, 1, 1, "y"), fact(3, 9, 1, "y"), fact(0, 5, 2, "x"), fact(8, 9, 2, "x")),
	})
	testJoins(t, "an equation of one relation with itself", b, numbers(fact(0, 6, 5)), compared(api.OpEq, 0, 0), joins{
		facts(fact(2, 4, "x", false, 1, 5), fact(1, 3, "x", true, 1, 5), fact(5, 6, "y", true, 2, 5)),
		facts(fact(2, 4, "x", false, 1, 5), fact(1, 3, "x", true, 1, 5), fact(6, 8, "x", true, 2, nil), fact(6, 7, "y", true, 2, nil), fact(5, 6, "y", true, 2, 5)),
		facts(fact(2, 4, "x", false, 1), fact(1, 3, "x", true, 1), fact(5, 6, "y", true, 2)),
		facts(fact(6, 8, "x", true, 2), fact(6, 7, "y", true, 2)),
	})
}

// TestManyColumns joins relations with as many columns together as a relation may have.
func TestManyColumns(t *testing.T) {
	a, b := numbers(fact(2, 7)), numbers(fact(4, 9))
	a.Kinds, b.Kinds = slices.Repeat(a.Kinds, 47), kinds(api.KindBool)
	a.Facts[0].Row = slices.Repeat([]api.Value{value.Int(5)}, 47)
	b.Facts[0].Row = []api.Value{value.Bool(true)}
	joined := api.Fact{Row: append(slices.Clone(a.Facts[0].Row), value.Bool(true)), Valid: api.Period{From: 4, To: 7}}
	alone := api.Fact{Row: append(slices.Clone(a.Facts[0].Row), value.Null()), Valid: api.Period{From: 2, To: 4}}
	testJoins(t, "47 columns and one", a, b, testkit.Column(47), joins{
		facts(joined), facts(alone, joined), facts(api.Fact{Row: a.Facts[0].Row, Valid: joined.Valid}), facts(api.Fact{Row: a.Facts[0].Row, Valid: alone.Valid}),
	})
}

func TestPairsAndMatch(t *testing.T) {
	a, b := facts(fact(0, 6, 1), fact(3, 9, 2)), facts(fact(4, 8, 1), fact(5, 7, 1))
	all := []api.Pair{{A: 0, B: 0}, {A: 0, B: 1}, {A: 1, B: 0}, {A: 1, B: 1}}
	if got := tjoin.Pairs(a, b); !slices.Equal(got, all) {
		t.Error("Pairs", got)
	}
	want := map[int][]api.Pair{api.Contains: all[2:], api.Overlaps: all[:2]}
	for rel := -1; rel <= api.Relations; rel++ {
		if got := tjoin.Match(a, b, rel); !slices.Equal(got, want[rel]) {
			t.Error("Match", rel, got)
		}
	}
	// Each relation holds between [10, 20) and one of these periods, in the order of the relations; between the first and the last ones lie periods that are not valid.
	others := facts(
		fact(21, 30), fact(20, 30), fact(15, 30), fact(10, 30), fact(5, 30), fact(5, 20), fact(10, 20),
		fact(15, 20), fact(12, 18), fact(10, 15), fact(5, 15), fact(5, 10), fact(5, 9),
		fact(15, 15), fact(18, 12), fact(-1, 15), fact(15, forever+1), fact(math.MinInt, math.MaxInt), fact(math.MaxInt, math.MinInt), fact(20, 20),
	)
	one := facts(fact(10, 20))
	var overlapping []api.Pair
	for rel := range api.Relations {
		if got := tjoin.Match(one, others, rel); !slices.Equal(got, []api.Pair{{B: rel}}) {
			t.Error("Match", rel, got)
		}
		inverse := api.Relations - 1 - rel
		if got := tjoin.Match(others, one, inverse); !slices.Equal(got, []api.Pair{{A: rel}}) {
			t.Error("Match", inverse, got)
		}
		if rel != api.Before && rel != api.Meets && rel != api.MetBy && rel != api.After {
			overlapping = append(overlapping, api.Pair{B: rel})
		}
	}
	if got := tjoin.Pairs(one, others); !slices.Equal(got, overlapping) {
		t.Error("Pairs", got)
	}
	for _, rel := range []int{math.MinInt, -1, api.Relations, 64, math.MaxInt} {
		if got := tjoin.Match(others, others, rel); len(got) != 0 {
			t.Error("Match", rel, got)
		}
	}
	if len(tjoin.Pairs(nil, one)) != 0 || len(tjoin.Pairs(one, nil)) != 0 || len(tjoin.Match(nil, one, api.Equals)) != 0 {
		t.Error("pairs without facts")
	}
}

func TestMatchAtTheEndOfTime(t *testing.T) {
	open, all, last := fact(4, forever), fact(0, forever), fact(forever-1, forever)
	for i, x := range []struct {
		rel  int
		a, b api.Fact
	}{
		{api.Meets, fact(0, 4), open}, {api.MetBy, open, fact(0, 4)}, {api.Before, fact(0, 3), open}, {api.After, open, fact(0, 3)},
		{api.Meets, fact(4, forever-1), last}, {api.Before, fact(4, forever-2), last}, {api.After, last, fact(0, forever-2)},
		{api.Finishes, last, open}, {api.FinishedBy, all, last}, {api.Equals, last, last}, {api.During, fact(4, forever-1), all}, {api.StartedBy, all, fact(0, 1)},
	} {
		for rel := range api.Relations {
			want := 0
			if rel == x.rel {
				want = 1
			}
			if got := tjoin.Match(facts(x.a), facts(x.b), rel); len(got) != want {
				t.Error("case", i, rel, got)
			}
		}
	}
}
