package btree_test

import (
	"math"
	"slices"
	"testing"

	"bitemporal/api"
	"bitemporal/btree"
	"bitemporal/testkit"
	"bitemporal/tuple"
	"bitemporal/value"
)

func key(l ...any) []api.Value { return testkit.Row(l...) }

// pair is a key with an identity.
type pair struct {
	key []api.Value
	id  int
}

// empty returns an empty tree.
func empty(t *testing.T, order int) *btree.Tree {
	t.Helper()
	x, err := btree.New(order)
	if x == nil || err != api.OK {
		t.Fatal(order, err)
	}
	return x
}

// treeOf returns a tree of pairs, which must be different.
func treeOf(t *testing.T, order int, pairs ...pair) *btree.Tree {
	t.Helper()
	x := empty(t, order)
	for _, p := range pairs {
		if !x.Put(p.key, p.id) {
			t.Fatal("not put:", p)
		}
	}
	return x
}

// wantIDs reports an error unless a result is the wanted one.
func wantIDs(t *testing.T, name string, got []int, want ...int) {
	t.Helper()
	if !slices.Equal(got, want) {
		t.Error(name, got, "want", want)
	}
}

func TestExamples(t *testing.T) {
	x := treeOf(t, 4, pair{key(1, "a"), 7}, pair{key(1, "b"), 8}, pair{key(2, "a"), 9}, pair{key(1, "a"), 3})
	wantIDs(t, "Get", x.Get(key(1, "a")), 3, 7)
	wantIDs(t, "Prefix", x.Prefix(key(1)), 3, 7, 8)
	wantIDs(t, "Range", x.Range(key(1, "b"), key(2)), 8)
	if x.Len() != 4 {
		t.Error(x.Len())
	}
	if y := treeOf(t, 2, pair{key(1), 1}, pair{key(2), 2}, pair{key(3), 3}); y.Depth() != 2 {
		t.Error(y.Depth())
	}
	if _, err := btree.New(1); err != api.ErrRange {
		t.Error(err)
	}
}

func TestOrders(t *testing.T) {
	for _, order := range []int{math.MinInt, -2, -1, 0, 1, 65, 66, math.MaxInt} {
		if x, err := btree.New(order); x != nil || err != api.ErrRange {
			t.Error(order, x, err)
		}
	}
	for order := 2; order <= 64; order++ {
		x := empty(t, order)
		if x.Len() != 0 || x.Depth() != 0 || !x.Check() {
			t.Error(order)
		}
		for i := range order + 1 {
			if want := min(i, 1); x.Depth() != want {
				t.Error(order, i, x.Depth())
			}
			x.Put(key(i), i)
		}
		if x.Depth() != 2 || x.Len() != order+1 || !x.Check() {
			t.Error(order, x.Depth(), x.Len())
		}
	}
}

// ordered is a list of pairs in their order.
func ordered() []pair {
	return []pair{
		{key(), math.MinInt}, {key(), 0}, {key(), math.MaxInt}, {key(nil), 1}, {key(nil, nil), 1}, {key(nil, 5), 1},
		{key(-api.MaxNumber), 1}, {key(-1, "b"), 1}, {key(1), -1}, {key(1), 2}, {key(1, nil), 0}, {key(1, 3), 0}, {key(1, 3), 1},
		{key(1, "a"), 7}, {key(1, "a", nil), 0}, {key(1, "a", false), 0}, {key(1, "b"), -5}, {key(1, false), 0}, {key(1, true), 0},
		{key(2), math.MinInt}, {key(api.MaxNumber), 0}, {key(""), 0}, {key("A"), 0}, {key("a"), 0}, {key("a", 1), 0}, {key("aa"), 0},
		{key("b"), 0}, {key(false), 0}, {key(true), 0}, {key(true, nil), 0}, {key(true, true, true, true), 0},
	}
}

func TestPairsAreOrdered(t *testing.T) {
	all := ordered()
	var ids []int
	for _, p := range all {
		ids = append(ids, p.id)
	}
	for order := 2; order <= 9; order++ {
		x := empty(t, order)
		for i := range all {
			p := all[i*12%len(all)]
			if !x.Put(p.key, p.id) || x.Put(p.key, p.id) || x.Len() != i+1 || !x.Check() {
				t.Error(order, p)
			}
		}
		wantIDs(t, "all", x.Prefix(nil), ids...)
		for i, p := range all {
			if !x.Delete(p.key, p.id) || x.Delete(p.key, p.id) || x.Len() != len(all)-i-1 || !x.Check() {
				t.Error(order, p)
			}
			wantIDs(t, "rest", x.Prefix(nil), ids[i+1:]...)
		}
		if x.Depth() != 0 {
			t.Error(order, x.Depth())
		}
	}
}

func TestSearches(t *testing.T) {
	var pairs []pair
	for i, p := range ordered() {
		pairs = append(pairs, pair{p.key, i})
	}
	x := treeOf(t, 3, pairs...)
	wantIDs(t, "Get ()", x.Get(nil), 0, 1, 2)
	wantIDs(t, "Get (null)", x.Get(key(nil)), 3)
	wantIDs(t, "Get (1)", x.Get(key(1)), 8, 9)
	wantIDs(t, "Get (1, 3)", x.Get(key(1, 3)), 11, 12)
	wantIDs(t, "Get (1, 4)", x.Get(key(1, 4)))
	wantIDs(t, "Get (1, 3, 1)", x.Get(key(1, 3, 1)))
	wantIDs(t, "Prefix (null)", x.Prefix(key(nil)), 3, 4, 5)
	wantIDs(t, "Prefix (1)", x.Prefix(key(1)), 8, 9, 10, 11, 12, 13, 14, 15, 16, 17, 18)
	wantIDs(t, "Prefix (1, 'a')", x.Prefix(key(1, "a")), 13, 14, 15)
	wantIDs(t, "Prefix ('a')", x.Prefix(key("a")), 23, 24)
	wantIDs(t, "Prefix (TRUE, TRUE, TRUE)", x.Prefix(key(true, true, true)), 30)
	wantIDs(t, "Prefix (3)", x.Prefix(key(3)))
	wantIDs(t, "Prefix (TRUE, NULL, 1)", x.Prefix(key(true, nil, 1)))
	wantIDs(t, "Range (1) (1, 3)", x.Range(key(1), key(1, 3)), 8, 9, 10)
	wantIDs(t, "Range (1, 'a') (1, 'a', FALSE)", x.Range(key(1, "a"), key(1, "a", false)), 13, 14)
	wantIDs(t, "Range (0) (1)", x.Range(key(0), key(1)))
	wantIDs(t, "Range () ()", x.Range(nil, nil))
	wantIDs(t, "Range () (null)", x.Range(nil, key(nil)), 0, 1, 2)
	wantIDs(t, "Range (1) (1)", x.Range(key(1), key(1)))
	wantIDs(t, "Range (2) (1)", x.Range(key(2), key(1)))
	wantIDs(t, "Range ('b') ()", x.Range(key("b"), nil))
	wantIDs(t, "Range (TRUE) (TRUE, TRUE, TRUE, TRUE)", x.Range(key(true), key(true, true, true, true)), 28, 29)
	wantIDs(t, "Range (TRUE) (TRUE, TRUE, TRUE, TRUE, NULL)", x.Range(key(true), key(true, true, true, true, nil)), 28, 29, 30)
}

func TestIdentitiesOfEachPair(t *testing.T) {
	x := treeOf(t, 2, pair{key(2, 1), 5}, pair{key(1), 5}, pair{key(2, 2), 4}, pair{key(2, 1), 4}, pair{key(2), 5})
	wantIDs(t, "Prefix ()", x.Prefix(nil), 5, 5, 4, 5, 4)
	wantIDs(t, "Prefix (2)", x.Prefix(key(2)), 5, 4, 5, 4)
	wantIDs(t, "Range", x.Range(key(1), key(2, 2)), 5, 5, 4, 5)
	wantIDs(t, "Get", x.Get(key(2, 1)), 4, 5)
	if x.Delete(key(2, 1), 6) || x.Delete(key(2, 2), 5) || x.Delete(nil, 5) || x.Put(key(2, 1), 5) || x.Len() != 5 {
		t.Error("an absent pair was deleted or a present one put")
	}
}

func TestNilTree(t *testing.T) {
	var x *btree.Tree
	if x.Put(key(1), 1) || x.Delete(key(1), 1) || x.Len() != 0 || x.Depth() != 0 || x.Check() {
		t.Error("a nil tree does something")
	}
	if len(x.Get(nil)) != 0 || len(x.Prefix(nil)) != 0 || len(x.Range(nil, key(1))) != 0 {
		t.Error("a nil tree has pairs")
	}
}

func TestCheck(t *testing.T) {
	type shape = btree.Shape
	leaf := func(keys ...int) shape { return shape{Keys: keys} }
	for _, c := range []struct {
		order int
		want  bool
		s     shape
	}{
		{2, true, leaf(1)},
		{2, true, leaf(1, 2)},
		{2, false, leaf(1, 2, 3)},
		{3, true, leaf(1, 2, 3)},
		{2, false, leaf()},
		{4, true, leaf(1)},
		{3, false, leaf(1, 3, 2)},
		{3, false, leaf(1, 1)},
		{2, true, shape{[]int{5}, []shape{leaf(1, 3), leaf(7)}}},
		{4, true, shape{[]int{5}, []shape{leaf(1, 3), leaf(7, 8)}}},
		{4, false, shape{[]int{5}, []shape{leaf(1, 3), leaf(7)}}},
		{4, false, shape{[]int{5}, []shape{leaf(3), leaf(7, 8)}}},
		{5, true, shape{[]int{5}, []shape{leaf(1, 3), leaf(7, 8)}}},
		{6, false, shape{[]int{5}, []shape{leaf(1, 3), leaf(7, 8)}}},
		{2, false, shape{[]int{5}, []shape{leaf(1, 6), leaf(7)}}},
		{2, false, shape{[]int{5}, []shape{leaf(1, 5), leaf(7)}}},
		{2, false, shape{[]int{5}, []shape{leaf(1), leaf(5)}}},
		{2, false, shape{[]int{5}, []shape{leaf(1), leaf(4, 7)}}},
		{2, false, shape{[]int{5}, []shape{leaf(7), leaf(1)}}},
		{2, false, shape{[]int{5}, []shape{leaf(1)}}},
		{2, false, shape{[]int{5}, []shape{leaf(1), leaf(6), leaf(7)}}},
		{2, false, shape{[]int{5, 7}, []shape{leaf(1), leaf(6)}}},
		{2, false, shape{[]int{5}, []shape{leaf(), leaf(6)}}},
		{2, false, shape{nil, []shape{leaf(1)}}},
		{2, false, shape{[]int{5}, []shape{leaf(1), {[]int{7}, []shape{leaf(6), leaf(8)}}}}},
		{2, false, shape{[]int{5}, []shape{{[]int{3}, []shape{leaf(1), leaf(4)}}, leaf(7)}}},
		{2, true, shape{[]int{5}, []shape{{[]int{3}, []shape{leaf(1), leaf(4)}}, {[]int{7}, []shape{leaf(6), leaf(8)}}}}},
		{2, false, shape{[]int{5}, []shape{{[]int{3}, []shape{leaf(1), leaf(6)}}, {[]int{7}, []shape{leaf(6), leaf(8)}}}}},
		{2, false, shape{[]int{5}, []shape{{[]int{3}, []shape{leaf(1), leaf(4)}}, {[]int{7}, []shape{leaf(4), leaf(8)}}}}},
		{2, false, shape{[]int{5}, []shape{{[]int{3}, []shape{leaf(1), leaf(2, 4)}}, {[]int{7}, []shape{leaf(6), leaf(8)}}}}},
		{2, false, shape{[]int{5}, []shape{{[]int{3}, []shape{leaf(1), leaf(4)}}, {nil, []shape{leaf(6)}}}}},
		{2, false, shape{[]int{5}, []shape{{[]int{3}, []shape{leaf(1), leaf()}}, {[]int{7}, []shape{leaf(6), leaf(8)}}}}},
		{2, false, shape{[]int{5}, []shape{{[]int{3}, []shape{leaf(1), leaf(4)}}, {[]int{7}, []shape{leaf(6)}}}}},
	} {
		if got := btree.Build(c.order, c.s).Check(); got != c.want {
			t.Error(c.order, c.s, got)
		}
	}
}

func TestKeysAreNotRetained(t *testing.T) {
	x := empty(t, 2)
	k := append(make([]api.Value, 0, 4), key(1, "a")...)
	for i := range 9 {
		k[0].Int = i
		x.Put(k, i)
	}
	k[0], k[1] = value.Null(), value.Null()
	if spare := k[:4]; !tuple.Equal(spare[2:], make([]api.Value, 2)) {
		t.Error("spare capacity was changed:", spare)
	}
	for i := range 9 {
		wantIDs(t, "Get", x.Get(key(i, "a")), i)
	}
	arguments := [][]api.Value{key(3, "a"), key(6)}
	x.Get(arguments[0])
	x.Prefix(arguments[1])
	x.Delete(arguments[0], 3)
	wantIDs(t, "Range", x.Range(arguments[0], arguments[1]), 4, 5)
	if !tuple.Equal(arguments[0], key(3, "a")) || !tuple.Equal(arguments[1], key(6)) || !x.Check() {
		t.Error("arguments were changed:", arguments)
	}
}

func TestResultsAreNewMemory(t *testing.T) {
	x := treeOf(t, 2, pair{key(1), 1}, pair{key(1), 2}, pair{key(2), 3})
	for _, l := range [][]int{x.Get(key(1)), x.Prefix(nil), x.Range(key(1), key(2))} {
		clear(l[:cap(l)])
	}
	wantIDs(t, "Get", x.Get(key(1)), 1, 2)
	wantIDs(t, "Prefix", x.Prefix(nil), 1, 2, 3)
	wantIDs(t, "Range", x.Range(key(1), key(2)), 1, 2)
}
