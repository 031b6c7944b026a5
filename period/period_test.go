package period_test

import (
	"math"
	"slices"
	"testing"

	"bitemporal/api"
	"bitemporal/period"
)

// near lists all periods with bounds around the first instants, valid or not.
func near() []api.Period {
	var l []api.Period
	for from := -2; from <= 5; from++ {
		for to := -2; to <= 5; to++ {
			l = append(l, api.Period{From: from, To: to})
		}
	}
	return l
}

// far lists all periods with bounds at the ends of time and of the type int, valid or not.
func far() []api.Period {
	bounds := []int{math.MinInt, math.MinInt + 1, -1, 0, 1, 7, api.Forever - 1, api.Forever, api.Forever + 1, math.MaxInt}
	var l []api.Period
	for _, from := range bounds {
		for _, to := range bounds {
			l = append(l, api.Period{From: from, To: to})
		}
	}
	return l
}

// instants lists the instants of a period near the first ones; none if it is not valid.
func instants(p api.Period) []int {
	var l []int
	if p.From < 0 {
		return nil
	}
	for t := p.From; t < p.To; t++ {
		l = append(l, t)
	}
	return l
}

// common lists the instants of p that lie in q if in is true, otherwise those that do not.
func common(p, q api.Period, in bool) []int {
	var l []int
	for _, t := range instants(p) {
		if slices.Contains(instants(q), t) == in {
			l = append(l, t)
		}
	}
	return l
}

func TestValid(t *testing.T) {
	for _, c := range []struct {
		from, to int
		want     bool
	}{
		{0, 1, true},
		{3, 7, true},
		{0, api.Forever, true},
		{api.Forever - 1, api.Forever, true},
		{0, 0, false},
		{3, 3, false},
		{7, 3, false},
		{-1, 3, false},
		{-3, -1, false},
		{math.MinInt, 1, false},
		{0, api.Forever + 1, false},
		{api.Forever, api.Forever, false},
		{api.Forever, api.Forever + 1, false},
		{0, math.MaxInt, false},
		{math.MinInt, math.MaxInt, false},
		{math.MaxInt, math.MinInt, false},
	} {
		if got := period.Valid(api.Period{From: c.from, To: c.to}); got != c.want {
			t.Error(c, got)
		}
	}
}

func TestContains(t *testing.T) {
	for _, p := range near() {
		for at := -3; at <= 6; at++ {
			if got := period.Contains(p, at); got != slices.Contains(instants(p), at) {
				t.Error(p, at, got)
			}
		}
	}
	open := api.Period{From: 4, To: api.Forever}
	for _, c := range []struct {
		at   int
		want bool
	}{
		{math.MinInt, false}, {3, false}, {4, true}, {api.Forever - 1, true}, {api.Forever, false}, {math.MaxInt, false},
	} {
		if got := period.Contains(open, c.at); got != c.want {
			t.Error(c, got)
		}
	}
	if period.Contains(api.Period{From: 0, To: api.Forever + 1}, 5) || period.Contains(api.Period{From: -1, To: 9}, 5) {
		t.Error("a period that is not valid contains an instant")
	}
}

func TestCovers(t *testing.T) {
	for _, p := range near() {
		for _, q := range near() {
			want := len(instants(p)) > 0 && len(instants(q)) > 0 && len(common(q, p, false)) == 0
			if got := period.Covers(p, q); got != want {
				t.Error(p, q, got)
			}
		}
	}
}

func TestOverlaps(t *testing.T) {
	for _, p := range near() {
		for _, q := range near() {
			if got := period.Overlaps(p, q); got != (len(common(p, q, true)) > 0) {
				t.Error(p, q, got)
			}
		}
	}
}

func TestAdjacent(t *testing.T) {
	for _, p := range near() {
		for _, q := range near() {
			l, m := instants(p), instants(q)
			want := false
			if len(l) > 0 && len(m) > 0 {
				want = l[len(l)-1]+1 == m[0] || m[len(m)-1]+1 == l[0]
			}
			if got := period.Adjacent(p, q); got != want {
				t.Error(p, q, got)
			}
		}
	}
}

func TestPredicatesAtTheEndOfTime(t *testing.T) {
	all := api.Period{From: 0, To: api.Forever}
	last := api.Period{From: api.Forever - 1, To: api.Forever}
	before := api.Period{From: 5, To: api.Forever - 1}
	if !period.Covers(all, last) || !period.Overlaps(last, all) || period.Covers(last, all) || !period.Covers(all, all) {
		t.Error("the last instant lies in all of time")
	}
	if !period.Adjacent(before, last) || !period.Adjacent(last, before) || period.Overlaps(before, last) || period.Adjacent(last, all) {
		t.Error("the last instant is adjacent to what precedes it")
	}
	beyond := api.Period{From: 5, To: api.Forever + 1}
	if period.Covers(beyond, last) || period.Covers(all, beyond) || period.Overlaps(beyond, last) || period.Overlaps(last, beyond) {
		t.Error("a period that ends after the end of time is not valid")
	}
	if period.Adjacent(beyond, api.Period{From: 2, To: 5}) || period.Adjacent(api.Period{From: 2, To: 5}, beyond) {
		t.Error("a period that ends after the end of time is adjacent to nothing")
	}
}

func TestIntersect(t *testing.T) {
	for _, p := range near() {
		for _, q := range near() {
			want := common(p, q, true)
			got, is := period.Intersect(p, q)
			if is != (len(want) > 0) || !slices.Equal(instants(got), want) || !is && got != (api.Period{}) {
				t.Error(p, q, got, is)
			}
		}
	}
	got, is := period.Intersect(api.Period{From: 3, To: api.Forever}, api.Period{From: 0, To: api.Forever})
	if !is || got != (api.Period{From: 3, To: api.Forever}) {
		t.Error(got, is)
	}
}

func TestMerge(t *testing.T) {
	for _, p := range near() {
		for _, q := range near() {
			got, is := period.Merge(p, q)
			want := period.Overlaps(p, q) || period.Adjacent(p, q)
			if is != want || !is && got != (api.Period{}) {
				t.Error(p, q, got, is)
			}
			union := append(instants(p), common(q, p, false)...)
			slices.Sort(union)
			if is && !slices.Equal(instants(got), union) {
				t.Error(p, q, got)
			}
		}
	}
	for _, c := range []struct {
		p, q, want api.Period
		is         bool
	}{
		{api.Period{From: 3, To: 7}, api.Period{From: 7, To: 9}, api.Period{From: 3, To: 9}, true},
		{api.Period{From: 7, To: 9}, api.Period{From: 3, To: 7}, api.Period{From: 3, To: 9}, true},
		{api.Period{From: 3, To: 7}, api.Period{From: 8, To: 9}, api.Period{}, false},
		{api.Period{From: 3, To: 7}, api.Period{From: 7, To: api.Forever}, api.Period{From: 3, To: api.Forever}, true},
		{api.Period{From: 3, To: 7}, api.Period{From: 7, To: api.Forever + 1}, api.Period{}, false},
	} {
		if got, is := period.Merge(c.p, c.q); got != c.want || is != c.is {
			t.Error(c, got, is)
		}
	}
}

func TestSubtract(t *testing.T) {
	for _, c := range []struct {
		p, q api.Period
		want []api.Period
	}{
		{api.Period{From: 3, To: 9}, api.Period{From: 5, To: 6}, []api.Period{{From: 3, To: 5}, {From: 6, To: 9}}},
		{api.Period{From: 3, To: 9}, api.Period{From: 0, To: 6}, []api.Period{{From: 6, To: 9}}},
		{api.Period{From: 3, To: 9}, api.Period{From: 3, To: 6}, []api.Period{{From: 6, To: 9}}},
		{api.Period{From: 3, To: 9}, api.Period{From: 6, To: 9}, []api.Period{{From: 3, To: 6}}},
		{api.Period{From: 3, To: 9}, api.Period{From: 6, To: api.Forever}, []api.Period{{From: 3, To: 6}}},
		{api.Period{From: 3, To: 9}, api.Period{From: 9, To: 12}, []api.Period{{From: 3, To: 9}}},
		{api.Period{From: 3, To: 9}, api.Period{From: 3, To: 9}, nil},
		{api.Period{From: 3, To: 9}, api.Period{From: 2, To: 10}, nil},
		{api.Period{From: 3, To: api.Forever}, api.Period{From: 5, To: 6}, []api.Period{{From: 3, To: 5}, {From: 6, To: api.Forever}}},
		{api.Period{From: 3, To: 9}, api.Period{From: 6, To: 6}, []api.Period{{From: 3, To: 9}}},
		{api.Period{From: 3, To: 9}, api.Period{From: -1, To: 6}, []api.Period{{From: 3, To: 9}}},
		{api.Period{From: 3, To: 9}, api.Period{From: 6, To: api.Forever + 1}, []api.Period{{From: 3, To: 9}}},
		{api.Period{From: 9, To: 3}, api.Period{From: 5, To: 6}, nil},
		{api.Period{From: -1, To: 9}, api.Period{From: 5, To: 6}, nil},
		{api.Period{From: -1, To: 9}, api.Period{From: 6, To: 5}, nil},
		{api.Period{From: 3, To: api.Forever + 1}, api.Period{From: 0, To: 2}, nil},
	} {
		if got := period.Subtract(c.p, c.q); !slices.Equal(got, c.want) {
			t.Error(c, got)
		}
	}
}

func TestSubtractReturnsNewMemory(t *testing.T) {
	p, q := api.Period{From: 3, To: 9}, api.Period{From: 5, To: 6}
	first := period.Subtract(p, q)
	clear(first)
	if got := period.Subtract(p, q); len(got) != 2 || got[0].From != 3 || got[1].From != 6 {
		t.Error(got)
	}
}

func TestPartition(t *testing.T) {
	for _, p := range near() {
		for _, q := range near() {
			rest := period.Subtract(p, q)
			inside, _ := period.Intersect(p, q)
			if len(rest) > 2 || len(rest) == 2 && rest[0].To >= rest[1].From {
				t.Error(p, q, rest)
			}
			for at := -3; at <= 6; at++ {
				parts := 0
				for _, part := range append([]api.Period{inside}, rest...) {
					if period.Contains(part, at) {
						parts++
					}
				}
				want := 0
				if slices.Contains(instants(p), at) {
					want = 1
				}
				if parts != want {
					t.Error(p, q, at, parts)
				}
				merged, is := period.Merge(p, q)
				either := period.Contains(p, at) || period.Contains(q, at)
				if is && period.Contains(merged, at) != either {
					t.Error(p, q, at, merged)
				}
			}
		}
	}
}

func TestCompare(t *testing.T) {
	for _, c := range []struct {
		p, q api.Period
		want int
	}{
		{api.Period{From: 3, To: 9}, api.Period{From: 3, To: 9}, 0},
		{api.Period{From: 3, To: 9}, api.Period{From: 4, To: 5}, -1},
		{api.Period{From: 4, To: 5}, api.Period{From: 3, To: 9}, 1},
		{api.Period{From: 3, To: 8}, api.Period{From: 3, To: 9}, -1},
		{api.Period{From: 3, To: 9}, api.Period{From: 3, To: 8}, 1},
		{api.Period{From: 9, To: 3}, api.Period{From: 9, To: -3}, 1},
		{api.Period{From: -9, To: 3}, api.Period{From: -8, To: 2}, -1},
		{api.Period{From: math.MinInt, To: 0}, api.Period{From: math.MaxInt, To: 0}, -1},
		{api.Period{From: math.MaxInt, To: 0}, api.Period{From: math.MinInt, To: 0}, 1},
		{api.Period{From: 0, To: math.MinInt}, api.Period{From: 0, To: math.MaxInt}, -1},
	} {
		if got := period.Compare(c.p, c.q); got != c.want {
			t.Error(c, got)
		}
	}
}

func TestCompareIsATotalOrder(t *testing.T) {
	l := append(far(), api.Period{From: 3, To: 3}, api.Period{From: -5, To: 2})
	slices.SortFunc(l, period.Compare)
	for i, p := range l {
		for j, q := range l {
			want := 0
			if i < j {
				want = -1
			} else if i > j {
				want = 1
			}
			if got := period.Compare(p, q); got != want {
				t.Fatal(p, q, got)
			}
		}
	}
}

func TestNoArgumentsPanic(t *testing.T) {
	l := far()
	for _, p := range l {
		period.Text(p)
		for _, q := range l {
			valid := period.Valid(p) && period.Valid(q)
			common, overlap := period.Intersect(p, q)
			merged, together := period.Merge(p, q)
			if !valid && (overlap || together || common != (api.Period{}) || merged != (api.Period{}) || period.Covers(p, q) || period.Overlaps(p, q) || period.Adjacent(p, q)) {
				t.Error(p, q)
			}
			for _, rest := range period.Subtract(p, q) {
				if !period.Covers(p, rest) || period.Overlaps(q, rest) {
					t.Error(p, q, rest)
				}
			}
			for _, at := range []int{p.From, p.To, q.From, q.To} {
				if period.Contains(p, at) != (period.Valid(p) && at >= p.From && at < p.To) {
					t.Error(p, at)
				}
			}
		}
	}
}
