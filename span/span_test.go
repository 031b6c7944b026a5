package span_test

import (
	"math"
	"slices"
	"testing"

	"bitemporal/api"
	"bitemporal/span"
)

func TestValid(t *testing.T) {
	for _, c := range []struct {
		l    []api.Period
		want bool
	}{
		{nil, true},
		{[]api.Period{}, true},
		{periods(0, api.Forever), true},
		{periods(0, 3, 4, 5), true},
		{periods(0, 3, 4, 5, 6, api.Forever), true},
		{periods(0, 3, 3, 5), false},
		{periods(0, 3, 2, 5), false},
		{periods(0, 3, 0, 3), false},
		{periods(4, 5, 0, 3), false},
		{periods(0, 9, 2, 3), false},
		{periods(0, 1, 5, 6, 3, 4), false},
		{periods(3, 3), false},
		{periods(5, 3), false},
		{periods(-1, 3), false},
		{periods(0, api.Forever+1), false},
		{periods(0, 1, 4, 4, 6, 7), false},
		{periods(0, 1, 6, math.MaxInt), false},
		{periods(math.MinInt, -3, 0, 1), false},
	} {
		if got := span.Valid(c.l); got != c.want {
			t.Error(c.l, got)
		}
	}
}

func TestContains(t *testing.T) {
	l := periods(7, 9, 0, 3, 2, 4, 6, 5, -3, 20, api.Forever-1, api.Forever)
	for _, c := range []struct {
		at   int
		want bool
	}{
		{math.MinInt, false}, {-1, false}, {0, true}, {3, true}, {4, false}, {5, false}, {6, false}, {7, true}, {8, true}, {9, false},
		{api.Forever - 2, false}, {api.Forever - 1, true}, {api.Forever, false}, {math.MaxInt, false},
	} {
		if got := span.Contains(l, c.at); got != c.want {
			t.Error(c, got)
		}
	}
	if span.Contains(nil, 0) {
		t.Error("nothing contains an instant")
	}
}

func TestOf(t *testing.T) {
	for _, c := range []struct{ l, want []api.Period }{
		{nil, nil},
		{periods(5, 8, 0, 5, 2, 3), periods(0, 8)},
		{periods(6, 8, 0, 5, 2, 3), periods(0, 5, 6, 8)},
		{periods(2, 3, 2, 3), periods(2, 3)},
		{periods(0, 2, 1, 3, 2, 4), periods(0, 4)},
		{periods(0, 9, 3, 4), periods(0, 9)},
		{periods(3, 3, 4, 2, -1, 5, 0, api.Forever+1, math.MinInt, math.MaxInt), nil},
		{periods(3, 3, 7, 9, -1, 5), periods(7, 9)},
		{periods(7, api.Forever, 0, 7), periods(0, api.Forever)},
	} {
		check(t, "Of", span.Of(c.l), c.want, c.l)
	}
}

func TestCombinations(t *testing.T) {
	for _, c := range []struct{ a, b, union, common, rest []api.Period }{
		{nil, nil, nil, nil, nil},
		{periods(0, 8), nil, periods(0, 8), nil, periods(0, 8)},
		{nil, periods(0, 8), periods(0, 8), nil, nil},
		{periods(0, 8), periods(4, 6), periods(0, 8), periods(4, 6), periods(0, 4, 6, 8)},
		{periods(0, 3), periods(3, 5), periods(0, 5), nil, periods(0, 3)},
		{periods(0, 3), periods(4, 5), periods(0, 3, 4, 5), nil, periods(0, 3)},
		{periods(0, 5, 6, 9), periods(4, 7), periods(0, 9), periods(4, 5, 6, 7), periods(0, 4, 7, 9)},
		{periods(0, 2, 2, 4), periods(1, 3), periods(0, 4), periods(1, 3), periods(0, 1, 3, 4)},
		{periods(2, 4, 0, 3), periods(3, 9, 1, 4), periods(0, 9), periods(1, 4), periods(0, 1)},
		{periods(0, 8), periods(4, 4, 6, 5, -2, 9, 0, api.Forever+1), periods(0, 8), nil, periods(0, 8)},
		{periods(0, api.Forever), periods(5, api.Forever), periods(0, api.Forever), periods(5, api.Forever), periods(0, 5)},
	} {
		check(t, "Union", span.Union(c.a, c.b), c.union, c.a, c.b)
		check(t, "Intersect", span.Intersect(c.a, c.b), c.common, c.a, c.b)
		check(t, "Subtract", span.Subtract(c.a, c.b), c.rest, c.a, c.b)
	}
}

func TestComplement(t *testing.T) {
	for _, c := range []struct{ l, want []api.Period }{
		{nil, periods(0, api.Forever)},
		{periods(3, 3, -1, 4), periods(0, api.Forever)},
		{periods(0, api.Forever), nil},
		{periods(4, api.Forever, 0, 4), nil},
		{periods(4, api.Forever), periods(0, 4)},
		{periods(0, 4), periods(4, api.Forever)},
		{periods(6, 9, 2, 4, 3, 5), periods(0, 2, 5, 6, 9, api.Forever)},
		{periods(0, api.Forever-1), periods(api.Forever-1, api.Forever)},
	} {
		check(t, "Complement", span.Complement(c.l), c.want, c.l)
	}
}

func TestCovers(t *testing.T) {
	for _, c := range []struct {
		a, b []api.Period
		want bool
	}{
		{nil, nil, true},
		{periods(2, 3), nil, true},
		{nil, periods(2, 3), false},
		{nil, periods(3, 2, -1, 5), true},
		{periods(3, 2, -1, 9), periods(2, 3), false},
		{periods(0, 3, 3, 9), periods(2, 5), true},
		{periods(5, 9, 0, 5), periods(2, 7), true},
		{periods(0, 3, 4, 9), periods(2, 5), false},
		{periods(0, 3, 4, 9), periods(3, 4), false},
		{periods(2, 5), periods(2, 5), true},
		{periods(2, 5), periods(2, 6), false},
		{periods(2, 5), periods(1, 5), false},
		{periods(2, 5), periods(3, 4, 7, 8), false},
		{periods(0, api.Forever), periods(api.Forever-1, api.Forever), true},
		{periods(0, api.Forever-1), periods(7, api.Forever), false},
	} {
		if got := span.Covers(c.a, c.b); got != c.want {
			t.Error(c.a, c.b, got)
		}
	}
}

func TestLength(t *testing.T) {
	for _, c := range []struct {
		l    []api.Period
		want int
	}{
		{nil, 0},
		{periods(0, 3, 2, 5), 5},
		{periods(0, 3, 3, 5, 0, 3), 5},
		{periods(9, 12, 0, 3), 6},
		{periods(3, 3, 5, 2, -4, 9, 2, api.Forever+1), 0},
		{periods(0, api.Forever, 3, 7), api.Forever},
		{periods(2, api.Forever, 0, 1), api.Forever - 1},
	} {
		if got := span.Length(c.l); got != c.want {
			t.Error(c.l, got)
		}
	}
}

func TestNext(t *testing.T) {
	l := periods(6, 8, 0, 3, 7, 10, 4, 4, -5, 40)
	for _, c := range []struct {
		from, want int
		is         bool
	}{
		{math.MinInt, 0, true}, {-1, 0, true}, {0, 0, true}, {2, 2, true}, {3, 6, true}, {5, 6, true}, {6, 6, true},
		{9, 9, true}, {10, 0, false}, {api.Forever, 0, false}, {math.MaxInt, 0, false},
	} {
		if got, is := span.Next(l, c.from); got != c.want || is != c.is {
			t.Error(c, got, is)
		}
	}
	if got, is := span.Next(periods(5, api.Forever), api.Forever-1); got != api.Forever-1 || !is {
		t.Error(got, is)
	}
	if got, is := span.Next(periods(5, api.Forever), api.Forever); got != 0 || is {
		t.Error(got, is)
	}
	if got, is := span.Next(nil, 0); got != 0 || is {
		t.Error(got, is)
	}
}

func TestPoints(t *testing.T) {
	for _, c := range []struct {
		l    []api.Period
		want []int
	}{
		{nil, nil},
		{periods(5, 8, 0, 5, 2, 3), []int{0, 2, 3, 5, 8}},
		{periods(7, api.Forever, 7, 9), []int{7, 9, api.Forever}},
		{periods(3, 3, 5, 2, -1, 4, 6, api.Forever+1), nil},
		{periods(2, 4, 2, 4), []int{2, 4}},
	} {
		if got := span.Points(c.l); !slices.Equal(got, c.want) {
			t.Error(c.l, got)
		}
	}
}

func TestSlices(t *testing.T) {
	for _, c := range []struct{ l, want []api.Period }{
		{nil, nil},
		{periods(5, 8, 0, 5, 2, 3), periods(0, 2, 2, 3, 3, 5, 5, 8)},
		{periods(5, 8, 0, 3), periods(0, 3, 5, 8)},
		{periods(0, 3, 3, 5), periods(0, 3, 3, 5)},
		{periods(2, 4, 2, 4), periods(2, 4)},
		{periods(0, api.Forever, 7, 9), periods(0, 7, 7, 9, 9, api.Forever)},
		{periods(0, 9, 4, 4, 6, 5, -1, 3, 2, api.Forever+1), periods(0, 9)},
	} {
		check(t, "Slices", span.Slices(c.l), c.want, c.l)
	}
}

func TestBooleanAlgebra(t *testing.T) {
	next := random(8)
	none, all := []api.Period(nil), periods(0, api.Forever)
	for range 1000 {
		a, b, c := somePeriods(next), somePeriods(next), somePeriods(next)
		u, n, not := span.Union, span.Intersect, span.Complement
		for _, law := range []struct {
			name      string
			got, want []api.Period
		}{
			{"commutative union", u(a, b), u(b, a)},
			{"commutative intersection", n(a, b), n(b, a)},
			{"associative union", u(u(a, b), c), u(a, u(b, c))},
			{"associative intersection", n(n(a, b), c), n(a, n(b, c))},
			{"distributive union", u(a, n(b, c)), n(u(a, b), u(a, c))},
			{"distributive intersection", n(a, u(b, c)), u(n(a, b), n(a, c))},
			{"absorbing union", u(a, n(a, b)), span.Of(a)},
			{"absorbing intersection", n(a, u(a, b)), span.Of(a)},
			{"neutral union", u(a, none), span.Of(a)},
			{"neutral intersection", n(a, all), span.Of(a)},
			{"union with the complement", u(a, not(a)), all},
			{"intersection with the complement", n(a, not(a)), none},
			{"complement twice", not(not(a)), span.Of(a)},
			{"complement of a union", not(u(a, b)), n(not(a), not(b))},
			{"complement of an intersection", not(n(a, b)), u(not(a), not(b))},
			{"difference", span.Subtract(a, b), n(a, not(b))},
		} {
			check(t, law.name, law.got, law.want, a, b, c)
		}
	}
}

func TestLengthsAddUp(t *testing.T) {
	next := random(9)
	for range 1000 {
		a, b := somePeriods(next), somePeriods(next)
		if span.Length(span.Union(a, b))+span.Length(span.Intersect(a, b)) != span.Length(a)+span.Length(b) {
			t.Fatal(a, b)
		}
	}
}

func TestSlicesDivideTheList(t *testing.T) {
	next := random(10)
	for range 1000 {
		l := somePeriods(next)
		pieces := span.Slices(l)
		check(t, "Of the slices", span.Of(pieces), span.Of(l), l)
		for i, piece := range pieces {
			if i > 0 && pieces[i-1].To > piece.From {
				t.Fatal(l, pieces)
			}
			for _, p := range l {
				outside := piece.To <= p.From || p.To <= piece.From
				if isValid(p) && !outside && (piece.From < p.From || p.To < piece.To) {
					t.Fatal(l, p, piece)
				}
			}
		}
	}
}

func TestManyPeriods(t *testing.T) {
	const n = 30000
	next := random(11)
	var touching, apart []api.Period
	for i := range n {
		touching = append(touching, api.Period{From: 3 * i, To: 3*i + 3})
		apart = append(apart, api.Period{From: 3 * i, To: 3*i + 2})
	}
	ordered := slices.Clone(apart)
	for i := range n {
		j := next(n)
		touching[i], touching[j] = touching[j], touching[i]
		apart[i], apart[j] = apart[j], apart[i]
	}
	if got := span.Of(touching); !slices.Equal(got, periods(0, 3*n)) {
		t.Error(len(got))
	}
	if got := span.Slices(touching); len(got) != n || len(span.Points(touching)) != n+1 {
		t.Error(len(got))
	}
	if got := span.Of(apart); !slices.Equal(got, ordered) {
		t.Error(len(got))
	}
	if got := span.Length(span.Subtract(touching, apart)); got != n {
		t.Error(got)
	}
}

func TestArgumentsAreKept(t *testing.T) {
	first, second := periods(6, 9, 0, 5, 4, 4), periods(7, 8, 2, 5)
	a, b := slices.Grow(slices.Clone(first), 9), slices.Grow(slices.Clone(second), 9)
	results := func() [][]api.Period {
		return [][]api.Period{
			span.Of(a), span.Of(span.Of(a)), span.Union(a, b), span.Union(a, nil), span.Union(nil, b), span.Intersect(a, b),
			span.Subtract(a, b), span.Subtract(a, nil), span.Complement(a), span.Slices(a), span.Slices(b),
		}
	}
	before := results()
	kept := make([][]api.Period, len(before))
	for i, l := range before {
		kept[i] = slices.Clone(l)
		clear(l[:cap(l)])
	}
	for i, l := range results() {
		check(t, "again", l, kept[i])
	}
	span.Valid(a)
	span.Contains(a, 3)
	span.Covers(a, b)
	span.Length(a)
	span.Next(a, 5)
	clear(span.Points(a))
	if !slices.Equal(a, first) || !slices.Equal(b, second) {
		t.Error(a, b)
	}
	for _, p := range slices.Concat(a[len(a):cap(a)], b[len(b):cap(b)]) {
		if p != (api.Period{}) {
			t.Error("the spare capacity of an argument was used")
		}
	}
}
