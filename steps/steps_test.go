package steps_test

import (
	"math"
	"slices"
	"testing"

	"bitemporal/api"
	"bitemporal/span"
	"bitemporal/steps"
)

// function returns a list of steps, given From and N of each.
func function(l ...int) []api.Step {
	var out []api.Step
	for i := 0; i < len(l); i += 2 {
		out = append(out, api.Step{From: l[i], N: l[i+1]})
	}
	return out
}

// periods returns a list of periods, given their bounds.
func periods(l ...int) []api.Period {
	var out []api.Period
	for i := 0; i < len(l); i += 2 {
		out = append(out, api.Period{From: l[i], To: l[i+1]})
	}
	return out
}

// counted returns periods with numbers, given From, To and N of each.
func counted(l ...int) []api.Counted {
	var out []api.Counted
	for i := 0; i < len(l); i += 3 {
		out = append(out, api.Counted{Period: api.Period{From: l[i], To: l[i+1]}, N: l[i+2]})
	}
	return out
}

// each returns periods with the number 1.
func each(l []api.Period) []api.Counted {
	var out []api.Counted
	for _, p := range l {
		out = append(out, api.Counted{Period: p, N: 1})
	}
	return out
}

func TestValid(t *testing.T) {
	for _, c := range []struct {
		l    []api.Step
		want bool
	}{
		{function(0, 0), true},
		{function(0, math.MinInt), true},
		{function(0, 1, 3, 3, 5, 2, 8, 0), true},
		{function(0, 1, 3, 3, 5, 1), true},
		{function(0, 1, api.Forever-1, 0), true},
		{nil, false},
		{[]api.Step{}, false},
		{function(1, 0), false},
		{function(-1, 0), false},
		{function(-1, 0, 0, 1), false},
		{function(math.MinInt, 0), false},
		{function(0, 1, 2, 1), false},
		{function(0, 0, 2, 1, 4, 1), false},
		{function(0, 1, 0, 2), false},
		{function(0, 1, 3, 2, 3, 1), false},
		{function(0, 1, 3, 2, 2, 1), false},
		{function(0, 1, -3, 2), false},
		{function(0, 1, math.MinInt, 2), false},
		{function(0, 1, api.Forever, 0), false},
		{function(0, 1, api.Forever+1, 0), false},
		{function(0, 1, math.MaxInt, 0), false},
		{function(api.Forever, 0), false},
	} {
		if got := steps.Valid(c.l); got != c.want {
			t.Error(c.l, got)
		}
	}
}

func TestAt(t *testing.T) {
	l := function(0, 7, 3, -2, 5, 0, 8, 4)
	for _, c := range []struct{ at, want int }{
		{math.MinInt, 0}, {-1, 0}, {0, 7}, {2, 7}, {3, -2}, {4, -2}, {5, 0}, {7, 0}, {8, 4}, {9, 4},
		{api.Forever - 1, 4}, {api.Forever, 0}, {math.MaxInt, 0},
	} {
		if got := steps.At(l, c.at); got != c.want {
			t.Error(c, got)
		}
	}
}

func TestOf(t *testing.T) {
	const most, least = math.MaxInt, math.MinInt
	for _, c := range []struct {
		l    []api.Counted
		want []api.Step
	}{
		{nil, function(0, 0)},
		{counted(0, 5, 1, 3, 8, 2), function(0, 1, 3, 3, 5, 2, 8, 0)},
		{counted(3, 8, 2), function(0, 0, 3, 2, 8, 0)},
		{counted(0, 3, 2, 3, 6, 2), function(0, 2, 6, 0)},
		{counted(0, 3, 2, 3, 6, 1), function(0, 2, 3, 1, 6, 0)},
		{counted(2, 6, 2, 2, 6, -2), function(0, 0)},
		{counted(2, 6, 0), function(0, 0)},
		{counted(2, 6, 3, 2, 6, 3), function(0, 0, 2, 6, 6, 0)},
		{counted(2, api.Forever, 3), function(0, 0, 2, 3)},
		{counted(0, api.Forever, 3), function(0, 3)},
		{counted(0, api.Forever-1, 3), function(0, 3, api.Forever-1, 0)},
		{counted(4, 4, 9, 6, 5, 9, -1, 3, 9, 0, api.Forever+1, 9, least, most, 9), function(0, 0)},
		{counted(4, 4, 9, 0, 2, 1, 7, api.Forever+1, 9), function(0, 1, 2, 0)},
		{counted(0, 4, most, 2, 6, 1), function(0, most, 2, least, 4, 1, 6, 0)},
		{counted(0, 4, least, 2, 6, least), function(0, least, 2, 0, 4, least, 6, 0)},
		{counted(0, 4, least, 2, 6, -1), function(0, least, 2, most, 4, -1, 6, 0)},
	} {
		check(t, "Of", steps.Of(c.l), c.want, c.l)
	}
}

func TestCombinations(t *testing.T) {
	const most, least = math.MaxInt, math.MinInt
	for _, c := range []struct{ a, b, sum, difference, lesser, greater []api.Step }{
		{function(0, 0), function(0, 0), function(0, 0), function(0, 0), function(0, 0), function(0, 0)},
		{function(0, 1), function(0, 1, 3, 3, 5, 2, 8, 0), function(0, 2, 3, 4, 5, 3, 8, 1), function(0, 0, 3, -2, 5, -1, 8, 1), function(0, 1, 8, 0), function(0, 1, 3, 3, 5, 2, 8, 1)},
		{function(0, 0, 4, 2), function(0, 2, 4, 0), function(0, 2), function(0, -2, 4, 2), function(0, 0), function(0, 2)},
		{function(0, 0, 4, 2), function(0, 0, 6, 1), function(0, 0, 4, 2, 6, 3), function(0, 0, 4, 2, 6, 1), function(0, 0, 6, 1), function(0, 0, 4, 2)},
		{function(0, most), function(0, 1), function(0, least), function(0, most-1), function(0, 1), function(0, most)},
		{function(0, least), function(0, 1), function(0, least+1), function(0, most), function(0, least), function(0, 1)},
		{function(0, 0), function(0, least), function(0, least), function(0, least), function(0, least), function(0, 0)},
		{function(0, least, 5, most), function(0, most, 5, least), function(0, -1), function(0, 1, 5, -1), function(0, least), function(0, most)},
		{function(0, 0, api.Forever-1, 5), function(0, 0), function(0, 0, api.Forever-1, 5), function(0, 0, api.Forever-1, 5), function(0, 0), function(0, 0, api.Forever-1, 5)},
	} {
		check(t, "Add", steps.Add(c.a, c.b), c.sum, c.a, c.b)
		check(t, "Sub", steps.Sub(c.a, c.b), c.difference, c.a, c.b)
		check(t, "Min", steps.Min(c.a, c.b), c.lesser, c.a, c.b)
		check(t, "Max", steps.Max(c.a, c.b), c.greater, c.a, c.b)
	}
}

func TestClip(t *testing.T) {
	for _, c := range []struct{ l, want []api.Step }{
		{function(0, 0), function(0, 0)},
		{function(0, -4), function(0, 0)},
		{function(0, 4), function(0, 4)},
		{function(0, 0, 3, -2, 5, -1, 8, 1), function(0, 0, 8, 1)},
		{function(0, 2, 3, -2, 5, 2), function(0, 2, 3, 0, 5, 2)},
		{function(0, math.MaxInt, 3, math.MinInt), function(0, math.MaxInt, 3, 0)},
	} {
		check(t, "Clip", steps.Clip(c.l), c.want, c.l)
	}
}

func TestAtLeast(t *testing.T) {
	l := function(0, 1, 3, 3, 5, 2, 8, 0, 9, -4, api.Forever-2, 3)
	for _, c := range []struct {
		n    int
		want []api.Period
	}{
		{math.MinInt, periods(0, api.Forever)},
		{-4, periods(0, api.Forever)},
		{-3, periods(0, 9, api.Forever-2, api.Forever)},
		{0, periods(0, 9, api.Forever-2, api.Forever)},
		{1, periods(0, 8, api.Forever-2, api.Forever)},
		{2, periods(3, 8, api.Forever-2, api.Forever)},
		{3, periods(3, 5, api.Forever-2, api.Forever)},
		{4, nil},
		{math.MaxInt, nil},
	} {
		if got := steps.AtLeast(l, c.n); !slices.Equal(got, c.want) {
			t.Error(c, got)
		}
	}
	if got := steps.AtLeast(function(0, math.MaxInt), math.MaxInt); !slices.Equal(got, periods(0, api.Forever)) {
		t.Error(got)
	}
}

func TestLevels(t *testing.T) {
	for _, c := range []struct {
		l    []api.Step
		want []api.Period
	}{
		{function(0, 0), nil},
		{function(0, -3, 5, math.MinInt), nil},
		{function(0, 1), periods(0, api.Forever)},
		{function(0, 2), periods(0, api.Forever, 0, api.Forever)},
		{function(0, 1, 3, 3, 5, 2, 8, 0), periods(0, 8, 3, 5, 3, 8)},
		{function(0, 1, 2, 0, 4, 1), periods(0, 2, 4, api.Forever)},
		{function(0, 3, 2, 1, 5, 0), periods(0, 2, 0, 2, 0, 5)},
		{function(0, 1, 2, 3, 5, 0), periods(0, 5, 2, 5, 2, 5)},
		{function(0, 2, 2, 1, 4, 2, 6, 0), periods(0, 2, 0, 6, 4, 6)},
		{function(0, -1, 2, 2, 4, -1, 6, 1), periods(2, 4, 2, 4, 6, api.Forever)},
	} {
		if got := steps.Levels(c.l); !slices.Equal(got, c.want) {
			t.Error(c, got)
		}
	}
}

func TestLevelsEndAtTheGreatest(t *testing.T) {
	const most = 1 << 20
	for _, above := range []int{most, most + 1, math.MaxInt} {
		got := steps.Levels(function(0, 1, 4, above, 6, most-1, 8, 0))
		if len(got) != most || got[0] != (api.Period{From: 0, To: 8}) || got[1] != (api.Period{From: 4, To: 6}) {
			t.Fatal(above, len(got))
		}
		for _, p := range got[2:] {
			if p != (api.Period{From: 4, To: 8}) {
				t.Fatal(above, p)
			}
		}
	}
	if got := steps.Levels(function(0, most+3, 5, most+7)); len(got) != most || got[0] != (api.Period{From: 0, To: api.Forever}) || got[most-1] != got[0] {
		t.Error("changes above the greatest level divide its period", len(got))
	}
}

func TestOfHasNoOrderAndAddsUp(t *testing.T) {
	next := random(6)
	for range 1000 {
		l, m := someCounted(next), someCounted(next)
		both := slices.Concat(l, m)
		want := steps.Add(steps.Of(l), steps.Of(m))
		check(t, "Of both", steps.Of(both), want, l, m)
		slices.Reverse(both)
		check(t, "Of both, reversed", steps.Of(both), want, l, m)
		for i := range both {
			j := next(len(both))
			both[i], both[j] = both[j], both[i]
		}
		check(t, "Of both, shuffled", steps.Of(both), want, l, m)
	}
}

func TestOfTheLevelsIsTheFunction(t *testing.T) {
	next := random(7)
	for range 1000 {
		l := someSteps(next, []int{0, 0, 1, 2, 3, 9})
		check(t, "Of the levels", steps.Of(each(steps.Levels(l))), l, l)
	}
	l := function(0, 3, 5, 1<<20, 7, 0, 9, 1<<20-1)
	check(t, "Of the levels", steps.Of(each(steps.Levels(l))), l, l)
}

func TestLevelsAreLayers(t *testing.T) {
	next := random(8)
	for range 500 {
		l := someSteps(next, append(someNumbers()[:9], 4, 5))
		for n := -3; n <= 6; n++ {
			if !span.Valid(steps.AtLeast(l, n)) || !span.Covers(steps.AtLeast(l, n), steps.AtLeast(l, n+1)) {
				t.Fatal(l, n)
			}
		}
		levels := steps.Levels(l)
		for _, p := range levels {
			for _, q := range levels {
				disjoint := p.To <= q.From || q.To <= p.From
				covers := p.From <= q.From && q.To <= p.To
				covered := q.From <= p.From && p.To <= q.To
				if !disjoint && !covers && !covered {
					t.Fatal(l, p, q)
				}
			}
		}
	}
}

func TestManySteps(t *testing.T) {
	const n = 30000
	next := random(9)
	var l []api.Counted
	for i := range n {
		l = append(l, counted(2*i, 2*i+1, 2, 2*i+1, 2*i+2, 1)...)
	}
	for i := range l {
		j := next(len(l))
		l[i], l[j] = l[j], l[i]
	}
	f := steps.Of(l)
	if len(f) != 2*n+1 || !steps.Valid(f) || steps.At(f, 2*n-2) != 2 || steps.At(f, 2*n-1) != 1 || steps.At(f, 2*n) != 0 {
		t.Error(len(f))
	}
	check(t, "the difference from itself", steps.Sub(f, f), function(0, 0))
	if got := steps.Levels(f); len(got) != n+1 || got[0] != (api.Period{From: 0, To: 1}) || got[1] != (api.Period{From: 0, To: 2 * n}) {
		t.Error(len(got))
	}
}

// Results for invalid lists are not specified, but every call has to return.
func TestNoArgumentsPanic(t *testing.T) {
	numbers := []int{math.MinInt, -1, 0, 1, 5, api.Forever, api.Forever + 1, math.MaxInt}
	next := random(10)
	for range 2000 {
		var l, m []api.Step
		for range next(5) {
			l = append(l, api.Step{From: numbers[next(8)], N: numbers[next(5)]})
		}
		for range next(5) {
			m = append(m, api.Step{From: numbers[next(8)], N: numbers[next(8)]})
		}
		steps.Add(l, m)
		steps.Sub(l, m)
		steps.Min(l, m)
		steps.Max(l, m)
		steps.Clip(m)
		steps.Levels(l)
		for _, n := range numbers {
			steps.At(m, n)
			steps.AtLeast(m, n)
		}
	}
}

func TestArgumentsAreKept(t *testing.T) {
	first, second, third := function(0, 1, 3, 3, 5, 2, 8, 0), function(0, 2, 4, 5), counted(3, 8, 2, 4, 4, 1, 0, 5, 1)
	a, b, c := slices.Grow(slices.Clone(first), 9), slices.Grow(slices.Clone(second), 9), slices.Grow(slices.Clone(third), 9)
	results := func() [][]api.Step {
		return [][]api.Step{
			steps.Of(c), steps.Of(nil), steps.Add(a, b), steps.Add(a, function(0, 0)), steps.Sub(a, b),
			steps.Min(a, b), steps.Min(a, a), steps.Max(a, b), steps.Clip(a),
		}
	}
	before := results()
	kept := make([][]api.Step, len(before))
	for i, l := range before {
		kept[i] = slices.Clone(l)
		clear(l[:cap(l)])
	}
	for i, l := range results() {
		check(t, "again", l, kept[i])
	}
	steps.Valid(a)
	steps.At(a, 3)
	clear(steps.AtLeast(a, 1))
	clear(steps.Levels(a))
	if !slices.Equal(a, first) || !slices.Equal(b, second) || !slices.Equal(c, third) {
		t.Error(a, b, c)
	}
	for _, s := range slices.Concat(a[len(a):cap(a)], b[len(b):cap(b)]) {
		if s != (api.Step{}) {
			t.Error("the spare capacity of an argument was used")
		}
	}
	for _, spare := range c[len(c):cap(c)] {
		if spare != (api.Counted{}) {
			t.Error("the spare capacity of an argument was used")
		}
	}
}
