package rtree_test

import (
	"math"
	"slices"
	"testing"

	"bitemporal/api"
	"bitemporal/rtree"
)

const forever = api.Forever

// rect returns the rectangle of the valid time [a, b) and the system time [c, d).
func rect(a, b, c, d int) api.Rect {
	return api.Rect{Valid: api.Period{From: a, To: b}, System: api.Period{From: c, To: d}}
}

func box(id, a, b, c, d int) api.Box { return api.Box{Rect: rect(a, b, c, d), ID: id} }

// treeOf returns the tree of boxes, which must be valid and different.
func treeOf(t *testing.T, width int, l ...api.Box) *rtree.Tree {
	t.Helper()
	x, err := rtree.Build(l, width)
	if x == nil || err != api.OK {
		t.Fatal(width, l, err)
	}
	return x
}

// row returns n boxes side by side, with the identities from 1 on, in descending order.
func row(n int) []api.Box {
	var l []api.Box
	for i := n; i > 0; i-- {
		l = append(l, box(i, 2*i-2, 2*i, 0, 5))
	}
	return l
}

func TestExamples(t *testing.T) {
	x := treeOf(t, 2, row(4)...)
	if x.Depth() != 2 || x.Len() != 4 {
		t.Error(x.Depth(), x.Len())
	}
	r := rect(1, 3, 4, 9)
	if l, n := x.Search(r), x.Visits(r); !slices.Equal(l, []int{1, 2}) || n != 2 {
		t.Error(l, n)
	}
	if b, ok := x.Bounds(); !ok || b != rect(0, 8, 0, 5) {
		t.Error(b, ok)
	}
	if n := x.Visits(rect(9, 10, 0, 5)); n != 1 {
		t.Error(n)
	}
}

func TestBuildErrors(t *testing.T) {
	valid := box(1, 0, 1, 0, 1)
	invalid := box(2, 3, 3, 0, 1)
	for i, c := range []struct {
		l     []api.Box
		width int
		want  api.Errno
	}{
		{nil, 1, api.ErrRange}, {nil, 65, api.ErrRange}, {nil, 0, api.ErrRange}, {nil, -2, api.ErrRange},
		{nil, math.MinInt, api.ErrRange}, {nil, math.MaxInt, api.ErrRange},
		{nil, 2, api.OK}, {nil, 64, api.OK}, {[]api.Box{valid}, 2, api.OK}, {[]api.Box{valid}, 64, api.OK},
		{[]api.Box{invalid}, 1, api.ErrRange}, {row(api.MaxRows + 1), 65, api.ErrRange}, {[]api.Box{valid, valid}, 65, api.ErrRange},
		{row(api.MaxRows), 2, api.OK}, {row(api.MaxRows + 1), 2, api.ErrTooLong}, {row(api.MaxRows + 1), 64, api.ErrTooLong},
		{make([]api.Box, api.MaxRows), 2, api.ErrInvalid}, {make([]api.Box, api.MaxRows+1), 2, api.ErrTooLong},
		{[]api.Box{invalid}, 2, api.ErrInvalid}, {[]api.Box{valid, invalid}, 2, api.ErrInvalid},
		{[]api.Box{valid, box(1, 5, 6, 5, 6)}, 2, api.ErrExists}, {[]api.Box{valid, valid}, 2, api.ErrExists},
		{[]api.Box{valid, box(2, 0, 1, 0, 1), box(3, 0, 1, 0, 1)}, 2, api.OK},
		{[]api.Box{valid, box(2, 0, 1, 0, 1), valid}, 2, api.ErrExists},
		{[]api.Box{valid, valid, invalid}, 2, api.ErrExists}, {[]api.Box{valid, invalid, valid}, 2, api.ErrInvalid},
		{[]api.Box{invalid, valid, valid}, 2, api.ErrInvalid}, {[]api.Box{valid, box(1, 3, 3, 0, 1)}, 2, api.ErrInvalid},
		{[]api.Box{box(0, 0, 1, 0, 1), box(-1, 0, 1, 0, 1), box(math.MinInt, 0, 1, 0, 1), box(math.MaxInt, 0, 1, 0, 1)}, 2, api.OK},
		{[]api.Box{box(-1, 0, 1, 0, 1), box(1, 0, 1, 0, 1), box(-1, 0, 1, 0, 1)}, 2, api.ErrExists},
	} {
		x, err := rtree.Build(c.l, c.width)
		if err != c.want || (x != nil) != (err == api.OK) {
			t.Error("case", i, x, err, "want", c.want)
		}
		if x.Len() != len(c.l) && err == api.OK {
			t.Error("case", i, x.Len())
		}
	}
}

func TestBuildRejectsRectangles(t *testing.T) {
	for _, p := range invalidPeriods() {
		for _, r := range []api.Rect{{Valid: p, System: api.Period{From: 0, To: 1}}, {Valid: api.Period{From: 0, To: 1}, System: p}, {Valid: p, System: p}} {
			if x, err := rtree.Build([]api.Box{{Rect: r, ID: 1}}, 2); x != nil || err != api.ErrInvalid {
				t.Error(r, err)
			}
		}
	}
	treeOf(t, 2, box(1, 0, forever, 0, forever), box(2, forever-1, forever, forever-1, forever), box(3, 0, 1, 0, 1))
}

func invalidPeriods() []api.Period {
	return []api.Period{
		{}, {From: 4, To: 4}, {From: 5, To: 4}, {From: -1, To: 4}, {From: -4, To: -2}, {From: 0, To: forever + 1},
		{From: forever, To: forever}, {From: forever, To: forever + 1}, {From: math.MinInt, To: math.MaxInt},
		{From: math.MaxInt, To: math.MinInt}, {From: 3, To: math.MaxInt}, {From: math.MinInt, To: 9},
	}
}

func TestSearchAndStab(t *testing.T) {
	l := []api.Box{
		box(7, 0, 4, 0, 4), box(-3, 2, 6, 2, 6), box(5, 4, 8, 0, 4), box(math.MaxInt, 0, forever, 9, forever),
		box(math.MinInt, forever-1, forever, 0, forever), box(0, 5, 6, 5, 6), box(2, 2, 6, 2, 6),
	}
	for width := 2; width <= 8; width++ {
		x := treeOf(t, width, l...)
		for _, c := range []struct {
			r    api.Rect
			want []int
		}{
			{rect(0, 1, 0, 1), []int{7}}, {rect(0, 2, 0, 4), []int{7}}, {rect(0, 3, 0, 4), []int{-3, 2, 7}},
			{rect(3, 4, 3, 4), []int{-3, 2, 7}}, {rect(4, 5, 3, 4), []int{-3, 2, 5}}, {rect(4, 5, 4, 5), []int{-3, 2}},
			{rect(5, 6, 5, 6), []int{-3, 0, 2}}, {rect(6, 9, 4, 9), nil}, {rect(6, 9, 4, 10), []int{math.MaxInt}},
			{rect(0, 5, 4, 6), []int{-3, 2}}, {rect(8, 9, 0, 9), nil}, {rect(8, forever-1, 0, 9), nil},
			{rect(8, forever, 0, 9), []int{math.MinInt}}, {rect(forever-1, forever, forever-1, forever), []int{math.MinInt, math.MaxInt}},
			{rect(0, forever, 0, forever), []int{math.MinInt, -3, 0, 2, 5, 7, math.MaxInt}}, {rect(0, forever, 4, 5), []int{math.MinInt, -3, 2}},
		} {
			if got := x.Search(c.r); !slices.Equal(got, c.want) {
				t.Error(width, "Search", c.r, got, c.want)
			}
			if got := x.Stab(c.r.Valid.From, c.r.System.From); c.r.Valid.To == c.r.Valid.From+1 && c.r.System.To == c.r.System.From+1 && !slices.Equal(got, c.want) {
				t.Error(width, "Stab", c.r, got, c.want)
			}
		}
	}
}

func TestSearchOfNoRectangle(t *testing.T) {
	x := treeOf(t, 2, append(row(9), box(100, 0, forever, 0, forever))...)
	for _, p := range invalidPeriods() {
		for _, r := range []api.Rect{{Valid: p, System: api.Period{From: 0, To: forever}}, {Valid: api.Period{From: 0, To: forever}, System: p}, {Valid: p, System: p}} {
			if l, n := x.Search(r), x.Visits(r); len(l) != 0 || n != 0 {
				t.Error(r, l, n)
			}
		}
	}
	for _, at := range []int{math.MinInt, -forever, -1, forever, forever + 1, math.MaxInt - 1, math.MaxInt} {
		if a, b, c := x.Stab(at, 3), x.Stab(3, at), x.Stab(at, at); len(a)+len(b)+len(c) != 0 {
			t.Error(at, a, b, c)
		}
	}
	if l := x.Stab(3, 3); !slices.Equal(l, []int{2, 100}) {
		t.Error(l)
	}
}

func TestBounds(t *testing.T) {
	for i, c := range []struct {
		l    []api.Box
		want api.Rect
	}{
		{[]api.Box{box(1, 3, 4, 5, 6)}, rect(3, 4, 5, 6)},
		{[]api.Box{box(1, 3, 4, 5, 6), box(2, 7, 9, 1, 2)}, rect(3, 9, 1, 6)},
		{[]api.Box{box(1, 3, 40, 5, 6), box(2, 7, 9, 6, 7), box(3, 8, 10, 2, 60)}, rect(3, 40, 2, 60)},
		{[]api.Box{box(1, 5, 6, 0, forever), box(2, 5, 6, 7, 9), box(3, 0, 9, 7, 8), box(4, 8, forever, 3, 4)}, rect(0, forever, 0, forever)},
		{[]api.Box{box(1, 1, 9, 1, 9), box(2, 2, 3, 2, 3), box(3, 4, 5, 4, 5), box(4, 1, 2, 8, 9), box(5, 8, 9, 1, 2)}, rect(1, 9, 1, 9)},
	} {
		for width := 2; width <= 5; width++ {
			if got, ok := treeOf(t, width, c.l...).Bounds(); !ok || got != c.want {
				t.Error("case", i, width, got, ok)
			}
		}
	}
}

func TestEmptyTrees(t *testing.T) {
	for name, x := range map[string]*rtree.Tree{"nil": nil, "built": treeOf(t, 2), "empty list": treeOf(t, 64, []api.Box{}...)} {
		all := rect(0, forever, 0, forever)
		if len(x.Search(all)) != 0 || len(x.Stab(0, 0)) != 0 || x.Visits(all) != 0 || x.Visits(api.Rect{}) != 0 || x.Len() != 0 || x.Depth() != 0 {
			t.Error(name, "has a rectangle")
		}
		if b, ok := x.Bounds(); ok || b != (api.Rect{}) {
			t.Error(name, b, ok)
		}
	}
}

func TestDepth(t *testing.T) {
	boxes := row(api.MaxRows)
	for _, width := range []int{2, 3, 4, 5, 7, 8, 16, 63, 64} {
		want := 1
		for most := width; most/width < len(boxes); most *= width {
			for _, k := range []int{most/width + 1, (most/width + 1 + most) / 2, most} {
				k = min(k, len(boxes))
				if x := treeOf(t, width, boxes[:k]...); x.Depth() != want || x.Len() != k {
					t.Error(width, k, x.Depth(), x.Len(), "want", want)
				}
			}
			want++
		}
		if x := treeOf(t, width, boxes[0]); x.Depth() != 1 {
			t.Error(width, x.Depth())
		}
	}
}

// TestPackingOrder checks, for each part of the order of boxes, which of them share a leaf: a search that overlaps one leaf only examines two nodes.
func TestPackingOrder(t *testing.T) {
	for name, l := range map[string][4]api.Box{
		"Valid.From":  {box(4, 0, 9, 8, 9), box(3, 1, 9, 6, 7), box(2, 2, 8, 4, 5), box(1, 3, 8, 2, 3)},
		"Valid.To":    {box(4, 0, 5, 8, 9), box(3, 0, 6, 6, 7), box(2, 0, 7, 4, 5), box(1, 0, 8, 2, 3)},
		"System.From": {box(4, 0, 5, 1, 9), box(3, 0, 5, 2, 8), box(2, 0, 5, 3, 7), box(1, 0, 5, 4, 6)},
		"System.To":   {box(4, 0, 5, 1, 6), box(3, 0, 5, 1, 7), box(2, 0, 5, 1, 8), box(1, 0, 5, 1, 9)},
	} {
		first, second := []api.Box{l[0], l[1]}, []api.Box{l[2], l[3]}
		for _, order := range [][4]int{{0, 1, 2, 3}, {3, 2, 1, 0}, {2, 0, 3, 1}, {1, 3, 0, 2}} {
			given := []api.Box{l[order[0]], l[order[1]], l[order[2]], l[order[3]]}
			x := treeOf(t, 2, given...)
			compareVisits(t, name, x, first, second)
		}
	}
}

// compareVisits reports an error unless a tree examines its root and those of two leaves that a search overlaps.
func compareVisits(t *testing.T, name string, x *rtree.Tree, leaves ...[]api.Box) {
	t.Helper()
	for valid := range 10 {
		for system := range 10 {
			r, want := rect(valid, valid+1, system, system+1), 1
			for _, boxes := range leaves {
				if overlap(hull(boxes), r) {
					want++
				}
			}
			if got := x.Visits(r); got != want {
				t.Fatal(name, r, got, want)
			}
		}
	}
}

func TestSameRectangles(t *testing.T) {
	var l []api.Box
	for i := range 20 {
		l = append(l, box(i*7%20-10, 3, 5, 0, 5))
	}
	x := treeOf(t, 3, l...)
	if got := x.Stab(4, 4); len(got) != 20 || got[0] != -10 || got[19] != 9 || !slices.IsSorted(got) {
		t.Error(got)
	}
	if got, n := x.Visits(rect(4, 6, 4, 6)), x.Visits(rect(5, 6, 4, 6)); got != 7+3+1 || n != 1 {
		t.Error(got, n)
	}
}

func TestVisitsDescendsOnlyIntoOverlappingNodes(t *testing.T) {
	x := treeOf(t, 2, row(8)...)
	for _, c := range []struct {
		r    api.Rect
		want int
	}{
		{rect(0, 1, 0, 1), 3}, {rect(0, 4, 0, 1), 3}, {rect(0, 5, 0, 1), 4}, {rect(3, 5, 4, 5), 4}, {rect(0, 16, 0, 5), 7},
		{rect(7, 9, 0, 1), 5}, {rect(8, 9, 0, 1), 3}, {rect(16, 17, 0, 1), 1}, {rect(0, 16, 5, 6), 1}, {rect(0, forever, 0, forever), 7},
	} {
		if got := x.Visits(c.r); got != c.want {
			t.Error(c.r, got, c.want)
		}
	}
	// The leaves of the boxes 1, 2 and 3, 4 have gaps: between boxes nothing is found, but the leaf is examined.
	gaps := treeOf(t, 2, box(1, 0, 2, 0, 2), box(2, 6, 8, 6, 8), box(3, 10, 12, 0, 2), box(4, 16, 18, 6, 8))
	if l, n := gaps.Search(rect(3, 5, 3, 5)), gaps.Visits(rect(3, 5, 3, 5)); len(l) != 0 || n != 2 {
		t.Error(l, n)
	}
}

func TestMemory(t *testing.T) {
	l := append(row(9), box(77, 1, 2, 3, 4))[:9]
	before := slices.Clone(l[:cap(l)])
	x := treeOf(t, 2, l...)
	if !slices.Equal(l[:cap(l)], before) {
		t.Error("Build changed its argument:", l[:cap(l)])
	}
	clear(l)
	r := rect(1, 9, 1, 2)
	found, hit := x.Search(r), x.Stab(1, 1)
	clear(found[:cap(found)])
	clear(hit[:cap(hit)])
	if got := x.Search(r); !slices.Equal(got, []int{1, 2, 3, 4, 5}) || found[0] != 0 || hit[0] != 0 {
		t.Error("a tree shares memory:", got)
	}
}
