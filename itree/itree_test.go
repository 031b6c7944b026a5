package itree_test

import (
	"math"
	"slices"
	"testing"

	"bitemporal/api"
	"bitemporal/itree"
)

func during(from, to int) api.Period { return api.Period{From: from, To: to} }

func item(from, to, id int) api.Counted { return api.Counted{Period: during(from, to), N: id} }

// treeOf returns a tree of items, which must be valid and different.
func treeOf(t *testing.T, items ...api.Counted) *itree.Tree {
	t.Helper()
	x := itree.New()
	for _, i := range items {
		if !x.Add(i.Period, i.N) {
			t.Fatal("not added:", i)
		}
	}
	return x
}

func TestExamples(t *testing.T) {
	x := treeOf(t, item(0, 5, 1), item(3, 9, 2), item(5, 6, 3))
	if l := x.Stab(5); !slices.Equal(l, []int{2, 3}) {
		t.Error(l)
	}
	if l := x.Overlap(during(0, 4)); !slices.Equal(l, []int{1, 2}) {
		t.Error(l)
	}
	if x.Len() != 3 || x.Height() != 2 {
		t.Error(x.Len(), x.Height())
	}
	if x.Add(during(4, 4), 9) || x.Add(during(3, 9), 2) || x.Len() != 3 {
		t.Error("an invalid period or an item was added twice")
	}
}

func TestAddRejects(t *testing.T) {
	x := treeOf(t, item(3, 9, 2))
	for _, p := range []api.Period{
		{}, during(4, 4), during(5, 4), during(-1, 4), during(-1, -1), during(-4, -2),
		during(0, api.Forever+1), during(api.Forever, api.Forever), during(api.Forever, api.Forever+1),
		during(math.MinInt, math.MaxInt), during(math.MaxInt, math.MinInt), during(3, math.MaxInt), during(math.MinInt, 9),
	} {
		if x.Add(p, 2) || x.Remove(p, 2) {
			t.Error("added or removed:", p)
		}
	}
	if x.Add(during(3, 9), 2) || !slices.Equal(x.Items(), []api.Counted{item(3, 9, 2)}) || x.Len() != 1 || x.Height() != 1 {
		t.Error(x.Items(), x.Len(), x.Height())
	}
}

func TestItemsAreOrdered(t *testing.T) {
	want := []api.Counted{
		item(0, 1, 7), item(0, api.Forever, math.MinInt), item(0, api.Forever, -1), item(0, api.Forever, 0), item(0, api.Forever, math.MaxInt),
		item(1, 2, 7), item(1, 3, 6), item(1, 3, 7), item(2, 3, -7), item(api.Forever-1, api.Forever, 0),
	}
	x := itree.New()
	for _, i := range []int{3, 9, 0, 7, 5, 1, 8, 2, 6, 4} {
		if !x.Add(want[i].Period, want[i].N) {
			t.Error("not added:", want[i])
		}
	}
	if l := x.Items(); !slices.Equal(l, want) || x.Len() != len(want) || !itree.Sound(x) {
		t.Error(l, x.Len())
	}
	for _, i := range []api.Counted{item(0, 1, 8), item(0, 2, 7), item(1, 1, 7), item(1, 3, 5), item(2, 3, 7)} {
		if x.Remove(i.Period, i.N) {
			t.Error("removed:", i)
		}
	}
	for k, i := range want {
		if !x.Remove(i.Period, i.N) || x.Remove(i.Period, i.N) || !slices.Equal(x.Items(), want[k+1:]) || x.Len() != len(want)-k-1 {
			t.Error(i, x.Items(), x.Len())
		}
	}
}

func TestSearches(t *testing.T) {
	end := api.Forever
	x := treeOf(t, item(0, 5, 1), item(3, 9, 2), item(5, 6, 3), item(3, 9, -4), item(4, 8, 2), item(20, end, 7), item(end-1, end, math.MaxInt), item(0, 1, math.MinInt))
	for _, c := range []struct {
		p    api.Period
		want []int
	}{
		{during(0, 1), []int{math.MinInt, 1}},
		{during(1, 3), []int{1}},
		{during(2, 4), []int{-4, 1, 2}},
		{during(4, 6), []int{-4, 1, 2, 3}},
		{during(5, 6), []int{-4, 2, 3}},
		{during(6, 9), []int{-4, 2}},
		{during(8, 9), []int{-4, 2}},
		{during(9, 20), nil},
		{during(9, 21), []int{7}},
		{during(end-2, end-1), []int{7}},
		{during(end-1, end), []int{7, math.MaxInt}},
		{during(0, end), []int{math.MinInt, -4, 1, 2, 3, 7, math.MaxInt}},
		{during(4, 4), nil}, {during(5, 4), nil}, {during(-1, 4), nil}, {during(0, end+1), nil},
		{during(math.MinInt, math.MaxInt), nil}, {during(4, math.MaxInt), nil},
	} {
		if got := x.Overlap(c.p); !slices.Equal(got, c.want) {
			t.Error("Overlap", c.p, got, c.want)
		}
		if got := x.Stab(c.p.From); c.p.To == c.p.From+1 && !slices.Equal(got, c.want) {
			t.Error("Stab", c.p.From, got, c.want)
		}
	}
	for _, at := range []int{-1, end, end + 1, math.MaxInt, math.MaxInt - 1, math.MinInt} {
		if l := x.Stab(at); len(l) != 0 {
			t.Error("Stab", at, l)
		}
	}
}

func TestEmptyTrees(t *testing.T) {
	for name, x := range map[string]*itree.Tree{"nil": nil, "new": itree.New(), "emptied": emptied(t)} {
		if x.Remove(during(0, 5), 1) || len(x.Stab(0)) != 0 || len(x.Overlap(during(0, 5))) != 0 || len(x.Items()) != 0 || x.Len() != 0 || x.Height() != 0 {
			t.Error(name)
		}
		if x.Add(during(0, 5), 1) != (x != nil) {
			t.Error(name, "Add")
		}
		if x == nil && (x.Len() != 0 || len(x.Stab(0)) != 0) {
			t.Error("a nil tree has an item")
		}
	}
}

// emptied returns a tree all of whose items were removed.
func emptied(t *testing.T) *itree.Tree {
	x := treeOf(t, item(0, 5, 1), item(3, 9, 2), item(5, 6, 3))
	for _, i := range x.Items() {
		x.Remove(i.Period, i.N)
	}
	return x
}

func TestResultsAreNewMemory(t *testing.T) {
	x := treeOf(t, item(0, 5, 1), item(3, 9, 2))
	stab, overlap, items := x.Stab(4), x.Overlap(during(0, 9)), x.Items()
	clear(stab[:cap(stab)])
	clear(overlap[:cap(overlap)])
	clear(items[:cap(items)])
	if !slices.Equal(x.Stab(4), []int{1, 2}) || !slices.Equal(x.Overlap(during(0, 9)), []int{1, 2}) || len(x.Items()) != 2 || x.Items()[0] != item(0, 5, 1) {
		t.Error(x.Stab(4), x.Overlap(during(0, 9)), x.Items())
	}
	if !x.Add(during(6, 7), 3) || stab[0] != 0 || items[0] != (api.Counted{}) {
		t.Error("results share memory with the tree")
	}
}
