package aggregate_test

import (
	"math"
	"slices"
	"testing"

	"bitemporal/aggregate"
	"bitemporal/api"
	"bitemporal/testkit"
)

const (
	forever = api.Forever
	most    = api.MaxNumber
)

func fact(from, to int, row ...any) api.Fact { return testkit.Fact(from, to, row...) }

func facts(l ...api.Fact) []api.Fact { return l }

func numbers(columns int, l ...api.Fact) api.Relation { return testkit.Numbers(columns, l...) }

func kinds(l ...int) []int { return l }

func agg(op, arg int) api.Agg { return api.Agg{Op: op, Arg: arg} }

func aggs(l ...api.Agg) []api.Agg { return l }

func countRows() api.Agg { return agg(api.AggCount, -1) }

// example returns the relation of the examples of the chapter.
func example() api.Relation {
	return numbers(2, fact(0, 6, 1, 5), fact(4, 9, 1, 7), fact(2, 3, 2, 1))
}

func TestGroup(t *testing.T) {
	number := api.KindInt
	r := example()
	gap := numbers(2, fact(0, 3, 1, 5), fact(5, 8, 1, 5), fact(2, 5, 2, 5))
	mixed := api.Relation{Kinds: kinds(api.KindText, api.KindBool, number), Facts: facts(
		fact(0, 8, "x", true, nil), fact(2, 6, "x", nil, nil), fact(4, forever, nil, false, -3), fact(5, 6, "x", false, nil), fact(6, 7, nil, true, 4),
	)}
	group := func(r api.Relation, keys []int, l ...api.Agg) api.Relation { return aggregate.Group(r, keys, l) }
	testkit.Want(t, "the example", group(r, kinds(0), countRows(), agg(api.AggSum, 1)), kinds(number, number, number), facts(
		fact(0, 4, 1, 1, 5), fact(6, 9, 1, 1, 7), fact(4, 6, 1, 2, 12), fact(2, 3, 2, 1, 1),
	))
	testkit.Want(t, "the example without keys", group(r, nil, countRows()), kinds(number), facts(
		fact(9, forever, 0), fact(0, 2, 1), fact(3, 4, 1), fact(6, 9, 1), fact(2, 3, 2), fact(4, 6, 2),
	))
	testkit.Want(t, "without keys, of nothing", group(numbers(1), nil, countRows(), agg(api.AggCount, 0), agg(api.AggSum, 0), agg(api.AggMin, 0), agg(api.AggMax, 0)), kinds(number, number, number, number, number), facts(
		fact(0, forever, 0, 0, nil, nil, nil),
	))
	testkit.Want(t, "with keys, of nothing", group(numbers(2), kinds(1, 0), countRows()), kinds(number, number, number), nil)
	testkit.Want(t, "without aggregates", group(r, kinds(0)), kinds(number), facts(fact(0, 9, 1), fact(2, 3, 2)))
	testkit.Want(t, "by all columns", group(r, kinds(1, 0, 1), countRows()), kinds(number, number, number, number), facts(
		fact(2, 3, 1, 2, 1, 1), fact(0, 6, 5, 1, 5, 1), fact(4, 9, 7, 1, 7, 1),
	))
	testkit.Want(t, "a group that is interrupted", group(gap, kinds(0), countRows()), kinds(number, number), facts(fact(0, 3, 1, 1), fact(5, 8, 1, 1), fact(2, 5, 2, 1)))
	testkit.Want(t, "results that stay as they are", group(gap, nil, agg(api.AggMin, 1), agg(api.AggMax, 1)), kinds(number, number), facts(fact(8, forever, nil, nil), fact(0, 8, 5, 5)))
	testkit.Want(t, "sums that come back", group(gap, nil, agg(api.AggSum, 0)), kinds(number), facts(fact(8, forever, nil), fact(0, 2, 1), fact(5, 8, 1), fact(3, 5, 2), fact(2, 3, 3)))
	testkit.Want(t, "mixed kinds", group(mixed, kinds(0), countRows(), agg(api.AggCount, 1), agg(api.AggMin, 1), agg(api.AggMax, 1), agg(api.AggSum, 2)), kinds(api.KindText, number, number, api.KindBool, api.KindBool, number), facts(
		fact(4, 6, nil, 1, 1, false, false, -3), fact(7, forever, nil, 1, 1, false, false, -3), fact(6, 7, nil, 2, 2, false, true, 1),
		fact(0, 2, "x", 1, 1, true, true, nil), fact(6, 8, "x", 1, 1, true, true, nil), fact(2, 5, "x", 2, 1, true, true, nil), fact(5, 6, "x", 3, 2, false, true, nil),
	))
	testkit.Want(t, "texts", group(mixed, nil, agg(api.AggMin, 0), agg(api.AggCount, 0)), kinds(api.KindText, number), facts(
		fact(8, forever, nil, 0), fact(0, 2, "x", 1), fact(6, 8, "x", 1), fact(2, 5, "x", 2), fact(5, 6, "x", 3),
	))
	testkit.Want(t, "duplicates", group(numbers(1, fact(0, 3, 7), fact(0, 3, 7), fact(2, 5, 7)), kinds(0), countRows(), agg(api.AggSum, 0), agg(api.AggMax, 0)), kinds(number, number, number, number), facts(
		fact(3, 5, 7, 1, 7, 7), fact(0, 2, 7, 2, 14, 7), fact(2, 3, 7, 3, 21, 7),
	))
	testkit.Want(t, "all of time", group(numbers(1, fact(0, forever, 7), fact(forever-1, forever, 8)), nil, countRows()), kinds(number), facts(fact(0, forever-1, 1), fact(forever-1, forever, 2)))
}

// TestExtremes checks that a value counts as long as its own fact is valid, in whatever order the facts begin and end.
func TestExtremes(t *testing.T) {
	r := numbers(1, fact(0, 9, 5), fact(1, 3, 8), fact(2, 4, 8), fact(2, 7, 6), fact(5, 8, 2), fact(6, 7, 3), fact(10, 12, 4), fact(11, 13, 4), fact(12, 14, 3))
	testkit.Want(t, "AggMax", aggregate.Group(r, nil, aggs(agg(api.AggMax, 0))), kinds(api.KindInt), facts(
		fact(9, 10, nil), fact(14, forever, nil), fact(13, 14, 3), fact(10, 13, 4), fact(0, 1, 5), fact(7, 9, 5), fact(4, 7, 6), fact(1, 4, 8),
	))
	testkit.Want(t, "AggMin", aggregate.Group(r, nil, aggs(agg(api.AggMin, 0))), kinds(api.KindInt), facts(
		fact(9, 10, nil), fact(14, forever, nil), fact(5, 8, 2), fact(12, 14, 3), fact(10, 12, 4), fact(0, 5, 5), fact(8, 9, 5),
	))
}

// TestSums checks sums about the greatest and the least number, which are exact also after greater ones.
func TestSums(t *testing.T) {
	r := numbers(1, fact(0, 20, most), fact(2, 12, 1), fact(4, 16, -1), fact(6, 10, most), fact(8, 14, -most), fact(10, 18, -most))
	testkit.Want(t, "AggSum", aggregate.Group(r, nil, aggs(agg(api.AggSum, 0))), kinds(api.KindInt), facts(
		fact(2, 4, nil), fact(6, 8, nil), fact(12, 14, nil), fact(20, forever, nil), fact(10, 12, -most), fact(14, 16, -1), fact(16, 18, 0), fact(0, 2, most), fact(4, 6, most), fact(8, 10, most), fact(18, 20, most),
	))
}

func TestMoving(t *testing.T) {
	number := kinds(api.KindInt)
	r := example()
	moving := func(r api.Relation, op, arg, width int) api.Relation {
		return aggregate.Moving(r, aggs(agg(op, arg)), width)
	}
	// The facts of the first relation are one fact of the canonical form; those of the second one are two.
	adjacent := numbers(1, fact(3, 5, 1), fact(0, 3, 1))
	apart := numbers(1, fact(4, 5, 1), fact(0, 3, 1))
	late := numbers(1, fact(forever-5, forever-3, 1), fact(forever-1, forever, 2))
	all := facts(fact(0, 2, 1), fact(2, 4, 2), fact(4, forever, 3))
	one := func(width int) api.Relation { return moving(r, api.AggMin, 1, width) }
	testkit.Want(t, "the example", moving(r, api.AggMax, 1, 3), number, facts(fact(11, forever, nil), fact(0, 4, 5), fact(4, 11, 7)))
	testkit.Want(t, "the width 1", one(1), number, facts(fact(9, forever, nil), fact(2, 3, 1), fact(0, 2, 5), fact(3, 6, 5), fact(6, 9, 7)))
	testkit.Want(t, "the width 0", one(0), number, one(1).Facts)
	testkit.Want(t, "the width -1", one(-1), number, one(1).Facts)
	testkit.Want(t, "the least width", one(math.MinInt), number, one(1).Facts)
	testkit.Want(t, "the width 2", one(2), number, facts(fact(10, forever, nil), fact(2, 4, 1), fact(0, 2, 5), fact(4, 7, 5), fact(7, 10, 7)))
	testkit.Want(t, "almost all of time", moving(r, api.AggCount, -1, forever-9), number, facts(
		fact(forever-1, forever, 0), fact(0, 2, 1), fact(forever-4, forever-1, 1), fact(2, 4, 2), fact(forever-7, forever-4, 2), fact(4, forever-7, 3),
	))
	testkit.Want(t, "all of time", moving(r, api.AggCount, -1, forever), number, all)
	testkit.Want(t, "more than all of time", moving(r, api.AggCount, -1, forever+1), number, all)
	testkit.Want(t, "the greatest width", moving(r, api.AggCount, -1, math.MaxInt), number, all)
	testkit.Want(t, "facts that are one", moving(adjacent, api.AggCount, -1, 4), number, facts(fact(8, forever, 0), fact(0, 8, 1)))
	testkit.Want(t, "facts that are two", moving(apart, api.AggCount, -1, 4), number, facts(fact(8, forever, 0), fact(0, 4, 1), fact(6, 8, 1), fact(4, 6, 2)))
	testkit.Want(t, "late facts", moving(late, api.AggSum, 0, 4), number, facts(fact(0, forever-5, nil), fact(forever-5, forever-1, 1), fact(forever-1, forever, 3)))
	testkit.Want(t, "nothing", moving(numbers(1), api.AggCount, -1, 4), number, facts(fact(0, forever, 0)))
	testkit.Want(t, "several aggregates", aggregate.Moving(api.Relation{Kinds: kinds(api.KindText, api.KindInt), Facts: facts(fact(2, 3, "x", nil))}, aggs(agg(api.AggMin, 0), agg(api.AggSum, 1), agg(api.AggCount, 1), countRows()), 2), kinds(api.KindText, api.KindInt, api.KindInt, api.KindInt), facts(
		fact(0, 2, nil, nil, 0, 0), fact(4, forever, nil, nil, 0, 0), fact(2, 4, "x", nil, 0, 1),
	))
}

func TestCount(t *testing.T) {
	for i, x := range []struct {
		l    []api.Fact
		want []api.Step
	}{
		{nil, []api.Step{{From: 0, N: 0}}},
		{example().Facts, []api.Step{{From: 0, N: 1}, {From: 2, N: 2}, {From: 3, N: 1}, {From: 4, N: 2}, {From: 6, N: 1}, {From: 9, N: 0}}},
		{facts(fact(3, forever), fact(3, forever, "x"), fact(5, 7, nil, 1)), []api.Step{{From: 0, N: 0}, {From: 3, N: 2}, {From: 5, N: 3}, {From: 7, N: 2}}},
		{facts(fact(0, 4, 1), fact(4, 6, 2)), []api.Step{{From: 0, N: 1}, {From: 6, N: 0}}},
		{facts(fact(3, 3, 1), fact(5, 2, 1), fact(-1, 4, 1), fact(7, forever+1, 1), fact(math.MinInt, math.MaxInt, 1), fact(1, 2, 1)), []api.Step{{From: 0, N: 0}, {From: 1, N: 1}, {From: 2, N: 0}}},
	} {
		if got := aggregate.Count(x.l); !slices.Equal(got, x.want) {
			t.Errorf("case %d: %v, want %v", i, got, x.want)
		}
	}
}

func TestIntegralAndPeak(t *testing.T) {
	counts := aggregate.Count(example().Facts)
	deep := []api.Step{{From: 0, N: -5}, {From: 3, N: -7}, {From: 6, N: -2}, {From: 8, N: -200000}, {From: forever - 1, N: -2}}
	huge := []api.Step{{From: 0, N: math.MaxInt}, {From: 2, N: math.MinInt}, {From: 5, N: math.MaxInt}}
	for i, x := range []struct {
		l                      []api.Step
		from, to               int
		integral, greatest, at int
	}{
		{counts, 1, 5, 6, 2, 2},
		{counts, 3, 9, 8, 2, 4},
		{counts, 5, 9, 5, 2, 5},
		{counts, 6, 9, 3, 1, 6},
		{counts, 8, 12, 1, 1, 8},
		{counts, 9, forever, 0, 0, 9},
		{counts, 0, forever, 12, 2, 2},
		{counts, 0, 2, 2, 1, 0},
		{counts, 2, 3, 2, 2, 2},
		{counts, forever - 1, forever, 0, 0, forever - 1},
		{counts, 5, 5, 0, 0, 0},
		{counts, 6, 3, 0, 0, 0},
		{counts, -1, 5, 0, 0, 0},
		{counts, 0, forever + 1, 0, 0, 0},
		{counts, math.MinInt, math.MaxInt, 0, 0, 0},
		{deep, 0, 6, -36, -5, 0},
		{deep, 2, 5, -19, -5, 2},
		{deep, 4, 5, -7, -7, 4},
		{deep, 0, 8, -40, -2, 6},
		{deep, 7, forever, -2 - 200000*(forever-9) - 2, -2, 7},
		{deep, 8, forever, -200000*(forever-9) - 2, -2, forever - 1},
		{huge, 0, 2, -2, math.MaxInt, 0},
		{huge, 1, 3, -1, math.MaxInt, 1},
		{huge, 2, 4, 0, math.MinInt, 2},
		{huge, 2, 6, -1, math.MaxInt, 5},
		{[]api.Step{{From: 0, N: 1}}, 0, forever, forever, 1, 0},
		{[]api.Step{{From: 0, N: 1}}, 7, 9, 2, 1, 7},
		{[]api.Step{{From: 0, N: 1 << 40}}, 0, forever, 0, 1 << 40, 0},
	} {
		p := api.Period{From: x.from, To: x.to}
		if got := aggregate.Integral(x.l, p); got != x.integral {
			t.Errorf("case %d: the integral is %d, want %d", i, got, x.integral)
		}
		if greatest, at := aggregate.Peak(x.l, p); greatest != x.greatest || at != x.at {
			t.Errorf("case %d: the peak is %d at %d, want %d at %d", i, greatest, at, x.greatest, x.at)
		}
	}
}
