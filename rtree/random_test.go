package rtree_test

import (
	"cmp"
	"slices"
	"testing"

	"bitemporal/api"
	"bitemporal/rtree"
	"bitemporal/testkit"
)

// overlap reports whether two valid rectangles have a point in common.
func overlap(a, b api.Rect) bool {
	return max(a.Valid.From, b.Valid.From) < min(a.Valid.To, b.Valid.To) && max(a.System.From, b.System.From) < min(a.System.To, b.System.To)
}

// contains reports whether a point lies in a rectangle.
func contains(r api.Rect, valid, system int) bool {
	return r.Valid.From <= valid && valid < r.Valid.To && r.System.From <= system && system < r.System.To
}

// hull returns the bounding rectangle of boxes, of which there is at least one.
func hull(l []api.Box) api.Rect {
	r := l[0].Rect
	for _, b := range l {
		r.Valid.From, r.Valid.To = min(r.Valid.From, b.Rect.Valid.From), max(r.Valid.To, b.Rect.Valid.To)
		r.System.From, r.System.To = min(r.System.From, b.Rect.System.From), max(r.System.To, b.Rect.System.To)
	}
	return r
}

// ids returns the ascending identities of the boxes that meet a condition.
func ids(l []api.Box, holds func(r api.Rect) bool) []int {
	var found []int
	for _, b := range l {
		if holds(b.Rect) {
			found = append(found, b.ID)
		}
	}
	slices.Sort(found)
	return found
}

// numbers returns the parts of the order of boxes.
func numbers(b api.Box) []int {
	r := b.Rect
	return []int{r.Valid.From, r.Valid.To, r.System.From, r.System.To, b.ID}
}

// packing returns the levels of nodes, the leaves first, each node as the range of the boxes below it in their order.
func packing(l []api.Box, width int) (levels [][][]api.Box) {
	sorted := slices.SortedFunc(slices.Values(l), func(a, b api.Box) int { return slices.Compare(numbers(a), numbers(b)) })
	for size := width; len(l) > 0; size *= width {
		var level [][]api.Box
		for from := 0; from < len(sorted); from += size {
			level = append(level, sorted[from:min(from+size, len(sorted))])
		}
		levels = append(levels, level)
		if len(level) == 1 {
			return levels
		}
	}
	return nil
}

// visits counts the nodes that a search examines: below the root, those of which every node above, except the root, and the node itself overlap r. As a node contains those below it, it is enough that the node itself does.
func visits(levels [][][]api.Box, r api.Rect) int {
	n := min(len(levels), 1)
	for i := range len(levels) - n {
		for _, boxes := range levels[i] {
			if overlap(hull(boxes), r) {
				n++
			}
		}
	}
	return n
}

// someRect returns a valid rectangle with few different bounds.
func someRect(m *testkit.Maker, most int) api.Rect {
	a, c := m.Below(most), m.Below(most)
	return rect(a, a+1+m.Below(3), c, c+1+m.Below(4))
}

// someBoxes returns up to most boxes with different identities, some of which have the same rectangle, and with spare capacity.
func someBoxes(m *testkit.Maker, most int) []api.Box {
	bound := 1 + m.Below(12)
	var l []api.Box
	for i := range m.Below(most + 1) {
		r := someRect(m, bound)
		if m.Chance(9) {
			r = api.Rect{Valid: m.Period(), System: m.Period()}
		}
		l = append(l, api.Box{Rect: r, ID: i*37%101 - 20})
	}
	return append(l, api.Box{ID: -7})[:len(l)]
}

func shuffled(m *testkit.Maker, l []api.Box) []api.Box {
	l = slices.Clone(l)
	for i := range l {
		j := m.Below(i + 1)
		l[i], l[j] = l[j], l[i]
	}
	return l
}

func TestAgainstTheDefinition(t *testing.T) {
	m := testkit.New(31)
	for range 4000 {
		l, width := someBoxes(m, 40), 2+m.Below(6)
		before := slices.Clone(l[:cap(l)])
		x := treeOf(t, width, l...)
		levels := packing(l, width)
		if x.Len() != len(l) || x.Depth() != len(levels) {
			t.Fatal(l, width, x.Len(), x.Depth())
		}
		if b, ok := x.Bounds(); ok != (len(l) > 0) || ok && b != hull(l) || !ok && b != (api.Rect{}) {
			t.Fatal(l, width, b, ok)
		}
		for range 10 {
			r := someRect(m, 16)
			if got, want := x.Search(r), ids(l, func(q api.Rect) bool { return overlap(q, r) }); !slices.Equal(got, want) {
				t.Fatal(l, width, r, got, want)
			}
			if got, want := x.Visits(r), visits(levels, r); got != want {
				t.Fatal(l, width, r, got, want)
			}
			valid, system := m.Below(18)-1, m.Below(18)-1
			if got, want := x.Stab(valid, system), ids(l, func(q api.Rect) bool { return contains(q, valid, system) }); !slices.Equal(got, want) {
				t.Fatal(l, width, valid, system, got, want)
			}
		}
		if !slices.Equal(before, l[:cap(l)]) {
			t.Fatal("the boxes were changed:", l[:cap(l)], before)
		}
	}
}

func TestIndependenceOfWidthAndOrder(t *testing.T) {
	m := testkit.New(32)
	for range 1000 {
		l := someBoxes(m, 60)
		x := treeOf(t, 2+m.Below(63), l...)
		again := shuffled(m, l)
		width := 2 + m.Below(63)
		y, z := treeOf(t, width, l...), treeOf(t, width, again...)
		bounds, ok := x.Bounds()
		for _, other := range []*rtree.Tree{y, z} {
			if b, any := other.Bounds(); b != bounds || any != ok || other.Depth() != y.Depth() {
				t.Fatal(l, again, width)
			}
			r := someRect(m, 14)
			if !slices.Equal(x.Search(r), other.Search(r)) || !slices.Equal(x.Stab(r.Valid.From, r.System.From), other.Stab(r.Valid.From, r.System.From)) || y.Visits(r) != other.Visits(r) {
				t.Fatal(l, again, width, r)
			}
		}
	}
}

func TestDivisionAndPruning(t *testing.T) {
	m := testkit.New(33)
	outside, found := 0, 0
	for range 3000 {
		l := someBoxes(m, 30)
		x := treeOf(t, 2+m.Below(5), l...)
		r := api.Rect{Valid: m.Period(), System: m.Period()}
		all := x.Search(r)
		bounds, ok := x.Bounds()
		if !ok || !overlap(r, bounds) {
			outside++
			if len(all) != 0 || x.Visits(r) > 1 || x.Visits(r) != min(1, len(l)) {
				t.Fatal(l, r, all, x.Visits(r))
			}
		}
		if len(all) > 0 {
			found++
			if x.Visits(r) < x.Depth() {
				t.Fatal(l, r, x.Visits(r), x.Depth())
			}
		}
		if r.Valid.To-r.Valid.From < 2 {
			continue
		}
		at := r.Valid.From + 1 + m.Below(min(5, r.Valid.To-r.Valid.From-1))
		left, right := r, r
		left.Valid.To, right.Valid.From = at, at
		both := slices.Concat(x.Search(left), x.Search(right))
		slices.Sort(both)
		if !slices.Equal(slices.Compact(both), all) {
			t.Fatal(l, r, at, both, all)
		}
	}
	if outside < 100 || found < 100 {
		t.Error("too few cases:", outside, found)
	}
}

func TestAnyArguments(t *testing.T) {
	m := testkit.New(34)
	errors := map[api.Errno]int{}
	for range 20000 {
		var l []api.Box
		for range m.Below(5) {
			r := api.Rect{Valid: m.Period(), System: m.Period()}
			if m.Chance(4) {
				r = api.Rect{Valid: m.AnyPeriod(), System: m.AnyPeriod()}
			}
			l = append(l, api.Box{Rect: r, ID: m.AnyNumber()})
		}
		width := cmp.Or(m.Below(4), m.AnyNumber())
		x, err := rtree.Build(l, width)
		if err != buildError(l, width) || (x == nil) != (err != api.OK) {
			t.Fatal(l, width, err)
		}
		errors[err]++
		r := api.Rect{Valid: m.AnyPeriod(), System: m.AnyPeriod()}
		x.Bounds()
		x.Depth()
		x.Visits(r)
		x.Stab(m.AnyNumber(), m.AnyNumber())
		if got := x.Search(r); len(got) > len(l) || !slices.IsSorted(got) {
			t.Fatal(l, r, got)
		}
	}
	for _, err := range []api.Errno{api.OK, api.ErrRange, api.ErrInvalid, api.ErrExists} {
		if errors[err] < 500 {
			t.Error("too few cases of", err, errors[err])
		}
	}
}

// buildError returns the first error of Build for a few boxes.
func buildError(l []api.Box, width int) api.Errno {
	if width < 2 || width > 64 {
		return api.ErrRange
	}
	for i, b := range l {
		for _, p := range []api.Period{b.Rect.Valid, b.Rect.System} {
			if p.From < 0 || p.From >= p.To || p.To > forever {
				return api.ErrInvalid
			}
		}
		if slices.ContainsFunc(l[:i], func(c api.Box) bool { return c.ID == b.ID }) {
			return api.ErrExists
		}
	}
	return api.OK
}

// TestManyBoxes takes very long if a search looks at all boxes.
func TestManyBoxes(t *testing.T) {
	const n = api.MaxRows
	x := treeOf(t, 8, row(n)...)
	for range 40 {
		for i := range n {
			if got := x.Search(rect(2*i+1, 2*i+2, 0, 1)); len(got) != 1 || got[0] != i+1 {
				t.Fatal(i, got)
			}
		}
	}
}
