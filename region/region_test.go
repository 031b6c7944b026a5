package region_test

import (
	"math"
	"slices"
	"testing"

	"bitemporal/api"
	"bitemporal/region"
)

const end = api.Forever

func TestValid(t *testing.T) {
	for _, c := range []struct {
		name string
		l    []api.Rect
		want bool
	}{
		{"nothing", nil, true},
		{"an empty list", []api.Rect{}, true},
		{"all points", rects(0, end, 0, end), true},
		{"two periods in a slice", rects(0, 3, 0, 5, 4, 6, 0, 5), true},
		{"two slices", rects(0, 3, 0, 5, 0, 4, 5, 9), true},
		{"a gap between equal slices", rects(0, 3, 0, 5, 0, 3, 6, 9), true},
		{"a slice that continues another one in part", rects(0, 3, 0, 5, 4, 6, 0, 5, 0, 3, 5, 9), true},
		{"equal slices that are adjacent", rects(0, 3, 0, 5, 0, 3, 5, 9), false},
		{"equal slices of two periods that are adjacent", rects(0, 3, 0, 5, 4, 6, 0, 5, 0, 3, 5, 9, 4, 6, 5, 9), false},
		{"adjacent periods in a slice", rects(0, 3, 0, 5, 3, 6, 0, 5), false},
		{"overlapping periods in a slice", rects(0, 3, 0, 5, 2, 6, 0, 5), false},
		{"equal rectangles", rects(0, 3, 0, 5, 0, 3, 0, 5), false},
		{"periods in the wrong order", rects(4, 6, 0, 5, 0, 3, 0, 5), false},
		{"slices in the wrong order", rects(0, 3, 5, 9, 0, 4, 0, 5), false},
		{"overlapping slices", rects(0, 3, 0, 5, 4, 6, 4, 9), false},
		{"slices that begin together", rects(0, 3, 0, 5, 4, 6, 0, 6), false},
		{"slices in turn", rects(0, 3, 0, 5, 0, 4, 5, 9, 6, 7, 0, 5), false},
		{"no valid time", rects(3, 3, 0, 5), false},
		{"no system time", rects(0, 3, 5, 5), false},
		{"negative valid time", rects(-1, 3, 0, 5), false},
		{"negative system time", rects(0, 3, -1, 5), false},
		{"valid time after the end", rects(0, end+1, 0, 5), false},
		{"system time after the end", rects(0, 3, 0, end+1), false},
		{"extreme bounds", rects(math.MinInt, math.MaxInt, math.MinInt, math.MaxInt), false},
		{"an invalid rectangle at the end", rects(0, 3, 0, 5, 4, 4, 0, 5), false},
	} {
		if got := region.Valid(c.l); got != c.want {
			t.Error(c.name, c.l, got)
		}
	}
}

func TestContains(t *testing.T) {
	l := rects(2, 5, 3, 6, 4, end, 5, end, 0, 9, 4, 4, 9, 0, 0, 3, -1, 9, 0, 9)
	for _, c := range []struct {
		valid, system int
		want          bool
	}{
		{2, 3, true}, {4, 5, true}, {1, 3, false}, {5, 3, false}, {2, 2, false}, {2, 6, false}, {3, 5, true}, {5, 5, true},
		{end - 1, end - 1, true}, {end, 5, false}, {4, end, false}, {-1, 5, false}, {0, 0, false},
		{math.MinInt, math.MinInt, false}, {math.MaxInt, math.MaxInt, false},
	} {
		if got := region.Contains(l, c.valid, c.system); got != c.want {
			t.Error(c, got)
		}
	}
	if region.Contains(nil, 0, 0) {
		t.Error("nothing contains a point")
	}
}

func TestOverlaps(t *testing.T) {
	for _, c := range []struct {
		l    []api.Rect
		want bool
	}{
		{rects(0, 4, 0, 5, 3, 9, 4, 6), true},
		{rects(0, 4, 0, 5, 0, 4, 0, 5), true},
		{rects(0, 9, 0, 9, 3, 4, 3, 4), true},
		{rects(0, end, 0, end, end-1, end, end-1, end), true},
		{rects(0, 4, 0, 5, 4, 9, 4, 6), false},
		{rects(0, 4, 0, 5, 3, 9, 5, 6), false},
		{rects(0, 4, 0, 5, 4, 9, 5, 6), false},
		{rects(0, 4, 0, 5, 2, 2, 1, 3), false},
		{rects(0, 4, 0, 5, 1, 3, 2, 2), false},
		{rects(0, 4, 0, 5, 3, 1, 1, 3), false},
		{rects(0, 4, 0, 5, -1, 3, 1, 3), false},
		{rects(0, 4, 0, 5, 1, 3, -1, 3), false},
		{rects(0, 4, 0, 5, 1, end+1, 1, 3), false},
		{rects(0, 4, 0, 5, 1, 3, 1, end+1), false},
		{rects(math.MinInt, math.MaxInt, 0, 5, 0, 4, 0, 5), false},
		{rects(0, 0, 0, 0, 0, 0, 0, 0), false},
	} {
		if got := region.Overlaps(c.l[0], c.l[1]); got != c.want {
			t.Error(c.l, got)
		}
		if got := region.Overlaps(c.l[1], c.l[0]); got != c.want {
			t.Error(c.l, "in the other order:", got)
		}
	}
}

func TestOf(t *testing.T) {
	for _, c := range []struct{ l, want []api.Rect }{
		{nil, nil},
		{rects(0, 4, 0, 5, 4, 6, 0, 5), rects(0, 6, 0, 5)},
		{rects(0, 4, 0, 5, 0, 4, 5, 9), rects(0, 4, 0, 9)},
		{rects(0, 4, 5, 9, 0, 4, 0, 5), rects(0, 4, 0, 9)},
		{rects(0, 4, 0, 5, 0, 4, 6, 9), rects(0, 4, 0, 5, 0, 4, 6, 9)},
		{rects(0, 4, 0, 5, 2, 6, 3, 8), rects(0, 4, 0, 3, 0, 6, 3, 5, 2, 6, 5, 8)},
		{rects(5, 6, 0, 4, 0, 3, 0, 4), rects(0, 3, 0, 4, 5, 6, 0, 4)},
		{rects(0, 9, 0, 9, 3, 4, 2, 5), rects(0, 9, 0, 9)},
		{rects(1, 3, 0, 5, 1, 3, 0, 5), rects(1, 3, 0, 5)},
		{rects(0, 4, 0, 2, 2, 4, 2, 5, 0, 2, 2, 5), rects(0, 4, 0, 5)},
		{rects(0, 2, 0, 4, 4, 6, 2, 6), rects(0, 2, 0, 2, 0, 2, 2, 4, 4, 6, 2, 4, 4, 6, 4, 6)},
		{rects(0, end, 3, end, 0, end, 0, 3), rects(0, end, 0, end)},
		{rects(3, 3, 0, 5, 0, 5, 3, 3, 4, 2, 0, 5, -1, 5, 0, 5, 0, 5, 0, end+1), nil},
		{rects(math.MinInt, math.MaxInt, 0, 5, 7, 9, 0, 5, 0, 5, math.MinInt, math.MaxInt), rects(7, 9, 0, 5)},
	} {
		check(t, "Of", region.Of(c.l), c.want, c.l)
	}
}

func TestCombinations(t *testing.T) {
	for _, c := range []struct{ a, b, union, common, rest []api.Rect }{
		{nil, nil, nil, nil, nil},
		{rects(0, 8, 0, 4), nil, rects(0, 8, 0, 4), nil, rects(0, 8, 0, 4)},
		{nil, rects(0, 8, 0, 4), rects(0, 8, 0, 4), nil, nil},
		{rects(0, 6, 0, 4), rects(2, 3, 1, 2), rects(0, 6, 0, 4), rects(2, 3, 1, 2), rects(0, 6, 0, 1, 0, 2, 1, 2, 3, 6, 1, 2, 0, 6, 2, 4)},
		{rects(2, 3, 1, 2), rects(0, 6, 0, 4), rects(0, 6, 0, 4), rects(2, 3, 1, 2), nil},
		{rects(0, 4, 0, 5), rects(4, 6, 0, 5), rects(0, 6, 0, 5), nil, rects(0, 4, 0, 5)},
		{rects(0, 4, 0, 5), rects(0, 4, 5, 9), rects(0, 4, 0, 9), nil, rects(0, 4, 0, 5)},
		{rects(0, 4, 0, 5), rects(0, 4, 3, 9), rects(0, 4, 0, 9), rects(0, 4, 3, 5), rects(0, 4, 0, 3)},
		{rects(0, 4, 0, 5), rects(2, 6, 0, 5), rects(0, 6, 0, 5), rects(2, 4, 0, 5), rects(0, 2, 0, 5)},
		{rects(0, 2, 0, 9, 2, 4, 0, 9), rects(1, 3, 0, 4, 1, 3, 4, 9), rects(0, 4, 0, 9), rects(1, 3, 0, 9), rects(0, 1, 0, 9, 3, 4, 0, 9)},
		{rects(0, 8, 0, 8), rects(4, 4, 0, 8, 6, 5, 0, 8, 0, 8, -1, 8, 0, end+1, 0, 8), rects(0, 8, 0, 8), nil, rects(0, 8, 0, 8)},
		{rects(0, end, 0, end), rects(3, end, 5, end), rects(0, end, 0, end), rects(3, end, 5, end), rects(0, end, 0, 5, 0, 3, 5, end)},
		{rects(0, end, 0, end), rects(0, end, 0, end), rects(0, end, 0, end), rects(0, end, 0, end), nil},
	} {
		check(t, "Union", region.Union(c.a, c.b), c.union, c.a, c.b)
		check(t, "Intersect", region.Intersect(c.a, c.b), c.common, c.a, c.b)
		check(t, "Subtract", region.Subtract(c.a, c.b), c.rest, c.a, c.b)
	}
}

func TestSliceAndSection(t *testing.T) {
	l := rects(0, 6, 0, 1, 0, 2, 1, 2, 3, 6, 1, 2, 0, 6, 2, 4, 6, 8, 3, end, 1, 1, 0, 9, 0, 9, 9, 9, -1, 9, 0, 9, 9, end, end-1, end)
	for _, c := range []struct {
		at             int
		slice, section []api.Period
	}{
		{0, []api.Period{{From: 0, To: 6}}, []api.Period{{From: 0, To: 4}}},
		{1, []api.Period{{From: 0, To: 2}, {From: 3, To: 6}}, []api.Period{{From: 0, To: 4}}},
		{2, []api.Period{{From: 0, To: 6}}, []api.Period{{From: 0, To: 1}, {From: 2, To: 4}}},
		{3, []api.Period{{From: 0, To: 8}}, []api.Period{{From: 0, To: 4}}},
		{4, []api.Period{{From: 6, To: 8}}, []api.Period{{From: 0, To: 4}}},
		{6, []api.Period{{From: 6, To: 8}}, []api.Period{{From: 3, To: end}}},
		{8, []api.Period{{From: 6, To: 8}}, nil},
		{end - 1, []api.Period{{From: 6, To: 8}, {From: 9, To: end}}, []api.Period{{From: end - 1, To: end}}},
		{end, nil, nil},
		{-1, nil, nil},
		{math.MinInt, nil, nil},
		{math.MaxInt, nil, nil},
	} {
		if got := region.Slice(l, c.at); !slices.Equal(got, c.slice) {
			t.Error("slice", c.at, got)
		}
		if got := region.Section(l, c.at); !slices.Equal(got, c.section) {
			t.Error("section", c.at, got)
		}
	}
	if got := region.Slice(nil, 0); len(got) > 0 {
		t.Error(got)
	}
	if got := region.Section(nil, 0); len(got) > 0 {
		t.Error(got)
	}
}

func TestManyRectangles(t *testing.T) {
	const n = 20000
	next := random(8)
	var touching, apart []api.Rect
	for i := range n {
		touching = append(touching, api.Rect{Valid: api.Period{From: 0, To: 3}, System: api.Period{From: 3 * i, To: 3*i + 3}})
		apart = append(apart, api.Rect{Valid: api.Period{From: i, To: i + 3}, System: api.Period{From: 3 * i, To: 3*i + 2}})
	}
	ordered := slices.Clone(apart)
	for i := range n {
		j := next(n)
		touching[i], touching[j] = touching[j], touching[i]
		apart[i], apart[j] = apart[j], apart[i]
	}
	check(t, "Of", region.Of(touching), rects(0, 3, 0, 3*n))
	check(t, "Of", region.Of(apart), ordered)
	if got := region.Subtract(rects(0, end, 0, 3*n), apart); len(got) != 3*n-1 {
		t.Error(len(got))
	}
}

func TestRectanglesOfOneSystemTime(t *testing.T) {
	const n = 2000
	next := random(9)
	var l []api.Rect
	for i := range n {
		l = append(l, api.Rect{Valid: api.Period{From: 2 * i, To: 2*i + 2}, System: api.Period{From: next(5), To: 10 + next(5)}})
	}
	got := region.Of(l)
	for s := range 15 {
		if slice := region.Slice(got, s); !slices.Equal(slice, region.Slice(l, s)) {
			t.Error(s, len(slice))
		}
	}
	check(t, "the region of a region", region.Of(got), got)
}

func TestArgumentsAreKept(t *testing.T) {
	first, second := rects(6, 9, 0, 5, 0, 5, 0, 5, 4, 4, 2, 3, 0, 3, 7, 9), rects(7, 8, 1, 5, 2, 5, 4, 8)
	a, b := slices.Grow(slices.Clone(first), 9), slices.Grow(slices.Clone(second), 9)
	results := func() [][]api.Rect {
		of := region.Of(a)
		return [][]api.Rect{
			of, region.Of(of), region.Union(a, b), region.Union(a, nil), region.Union(nil, b), region.Union(of, nil), region.Intersect(a, b),
			region.Intersect(of, of), region.Subtract(a, b), region.Subtract(a, nil), region.Subtract(of, nil),
		}
	}
	before := results()
	kept := make([][]api.Rect, len(before))
	for i, l := range before {
		kept[i] = slices.Clone(l)
		clear(l[:cap(l)])
	}
	for i, l := range results() {
		check(t, "again", l, kept[i])
	}
	clear(region.Slice(a, 3))
	clear(region.Section(a, 3))
	region.Valid(a)
	region.Contains(a, 3, 3)
	if !slices.Equal(a, first) || !slices.Equal(b, second) {
		t.Error(a, b)
	}
	for _, r := range slices.Concat(a[len(a):cap(a)], b[len(b):cap(b)]) {
		if r != (api.Rect{}) {
			t.Error("the spare capacity of an argument was used")
		}
	}
}
