package btree_test

import (
	"cmp"
	"math"
	"slices"
	"testing"

	"bitemporal/api"
	"bitemporal/btree"
	"bitemporal/testkit"
	"bitemporal/tuple"
)

// model is a list of different pairs in their order.
type model []pair

func compare(a, b pair) int {
	return cmp.Or(tuple.Compare(a.key, b.key), cmp.Compare(a.id, b.id))
}

func (m *model) put(p pair) bool {
	at, found := slices.BinarySearchFunc(*m, p, compare)
	if !found {
		*m = slices.Insert(*m, at, p)
	}
	return !found
}

func (m *model) delete(p pair) bool {
	at, found := slices.BinarySearchFunc(*m, p, compare)
	if found {
		*m = slices.Delete(*m, at, at+1)
	}
	return found
}

// ids returns the identities of the pairs whose key meets a condition.
func (m model) ids(holds func(key []api.Value) bool) []int {
	var l []int
	for _, p := range m {
		if holds(p.key) {
			l = append(l, p.id)
		}
	}
	return l
}

func beginsWith(key, prefix []api.Value) bool {
	return len(key) >= len(prefix) && tuple.Equal(key[:len(prefix)], prefix)
}

// someKey returns a key of up to three values.
func someKey(m *testkit.Maker) []api.Value {
	var k []api.Value
	for range m.Below(4) {
		k = append(k, m.Value(m.Kind()))
	}
	return k
}

func somePair(m *testkit.Maker) pair { return pair{someKey(m), m.Below(3) - 1} }

// agree ends a test unless a tree and a model give the same answers about a key and a range.
func agree(t *testing.T, x *btree.Tree, m model, from, to []api.Value) {
	t.Helper()
	same := func(name string, got []int, holds func(key []api.Value) bool) {
		t.Helper()
		if want := m.ids(holds); !slices.Equal(got, want) {
			t.Fatal(name, from, to, got, want, m)
		}
	}
	same("Get", x.Get(from), func(k []api.Value) bool { return tuple.Equal(k, from) })
	same("Prefix", x.Prefix(from), func(k []api.Value) bool { return beginsWith(k, from) })
	same("Range", x.Range(from, to), func(k []api.Value) bool { return tuple.Compare(from, k) <= 0 && tuple.Compare(k, to) < 0 })
	same("all", x.Prefix(nil), func([]api.Value) bool { return true })
	if x.Len() != len(m) || !x.Check() {
		t.Fatal(x.Len(), x.Check(), m)
	}
}

// checkDepth ends a test unless a tree is a B-tree whose depth is within the bounds that the chapter states.
func checkDepth(t *testing.T, x *btree.Tree, order int) {
	t.Helper()
	n, d := x.Len(), x.Depth()
	if n == 0 || d == 0 {
		if n != d || !x.Check() {
			t.Fatal("depth", d, "of", n, "pairs")
		}
		return
	}
	if least, most := 2*power(order/2+1, d-1)-1, power(order+1, d)-1; n < least || n > most || !x.Check() {
		t.Fatal("order", order, "depth", d, "of", n, "pairs")
	}
}

func power(base, exponent int) int {
	p := 1
	for range exponent {
		p *= base
	}
	return p
}

func TestRandomCallsAgainstAModel(t *testing.T) {
	m := testkit.New(30)
	for round := range 126 {
		order := 2 + round%63
		if round%2 == 0 {
			order = 2 + round/2%6
		}
		x, want := empty(t, order), model{}
		growth := 1 + m.Below(4)
		for range 250 {
			p := somePair(m)
			if m.Below(5) < growth {
				if x.Put(p.key, p.id) != want.put(p) {
					t.Fatal("Put", p, want)
				}
			} else if x.Delete(p.key, p.id) != want.delete(p) {
				t.Fatal("Delete", p, want)
			}
			agree(t, x, want, someKey(m), someKey(m))
			checkDepth(t, x, order)
		}
	}
}

func TestDepths(t *testing.T) {
	const n = 300
	places := map[string]func(i int) int{
		"ascending":  func(i int) int { return i },
		"descending": func(i int) int { return n - i },
		"outwards":   func(i int) int { return i * (i%2*2 - 1) },
		"inwards":    func(i int) int { return (n - i) * (i%2*2 - 1) },
		"scattered":  func(i int) int { return i * 7919 % 1009 },
		"one key":    func(i int) int { return 5 },
	}
	for order := 2; order <= 64; order += 1 + order/6 {
		for name, put := range places {
			x := empty(t, order)
			for i := range n {
				if !x.Put(key(put(i)), i) {
					t.Fatal(name, i)
				}
				checkDepth(t, x, order)
			}
			for name, gone := range places {
				if name == "one key" || x.Len() == 0 {
					continue
				}
				for i := range n / 5 {
					id := (gone(i)%n + n) % n
					x.Delete(key(put(id)), id)
					checkDepth(t, x, order)
				}
			}
		}
	}
}

func TestRemovalInAnyOrder(t *testing.T) {
	m := testkit.New(31)
	for round := range 200 {
		order := 2 + round%9
		x, want := empty(t, order), model{}
		for range 1 + m.Below(300) {
			p := pair{key(m.Below(50), m.Below(3)), m.Below(3)}
			if x.Put(p.key, p.id) != want.put(p) {
				t.Fatal("Put", p)
			}
		}
		for len(want) > 0 {
			p := want[m.Below(len(want))]
			if !x.Delete(p.key, p.id) || !want.delete(p) {
				t.Fatal("Delete", p)
			}
			checkDepth(t, x, order)
			if m.Chance(10) {
				agree(t, x, want, key(m.Below(50)), key(m.Below(50)))
			}
		}
		if x.Len() != 0 || x.Depth() != 0 || !x.Check() || len(x.Prefix(nil)) != 0 {
			t.Fatal("not empty", x.Len(), x.Depth())
		}
	}
}

func TestRangesFollowEachOther(t *testing.T) {
	m := testkit.New(32)
	for range 100 {
		x, all := empty(t, 2+m.Below(6)), model{}
		for range m.Below(80) {
			p := somePair(m)
			x.Put(p.key, p.id)
			all.put(p)
		}
		for range 100 {
			k := tuple.Sort([][]api.Value{someKey(m), someKey(m), someKey(m)})
			both := append(x.Range(k[0], k[1]), x.Range(k[1], k[2])...)
			if got := x.Range(k[0], k[2]); !slices.Equal(got, both) {
				t.Fatal(k, got, both)
			}
		}
		if got := x.Prefix(nil); !slices.Equal(got, all.ids(func([]api.Value) bool { return true })) {
			t.Fatal(got, all)
		}
	}
}

func TestOrderOfInsertionDoesNotMatter(t *testing.T) {
	m := testkit.New(33)
	for range 100 {
		var pairs model
		for range m.Below(80) {
			pairs.put(somePair(m))
		}
		x := empty(t, 2+m.Below(6))
		for i := range pairs {
			p := pairs[(i*89+7)%len(pairs)]
			x.Put(p.key, p.id)
			if more := somePair(m); x.Put(more.key, more.id) {
				x.Delete(more.key, more.id)
			}
		}
		for _, p := range pairs {
			x.Put(p.key, p.id)
		}
		agree(t, x, pairs, someKey(m), someKey(m))
	}
}

func TestAnyArguments(t *testing.T) {
	m := testkit.New(34)
	some := func() []api.Value {
		var k []api.Value
		for range m.Below(4) {
			numbers := []int{math.MinInt, -1, 0, 1, 2, math.MaxInt}
			k = append(k, api.Value{Kind: numbers[m.Below(6)], Int: numbers[m.Below(6)], Text: []string{"", "\x00", "\xff", "é"}[m.Below(4)]})
		}
		return k
	}
	for order := 2; order < 12; order++ {
		x, want := empty(t, order), model{}
		for range 400 {
			p := pair{some(), []int{math.MinInt, -1, 0, math.MaxInt}[m.Below(4)]}
			if m.Chance(3) {
				if x.Delete(p.key, p.id) != want.delete(p) {
					t.Fatal("Delete", p)
				}
			} else if x.Put(p.key, p.id) != want.put(p) {
				t.Fatal("Put", p)
			}
			agree(t, x, want, some(), some())
		}
	}
}

// TestManyPairs takes very long if a call looks at all pairs.
func TestManyPairs(t *testing.T) {
	const n = 1 << 17
	for _, order := range []int{2, 64} {
		x := empty(t, order)
		for i := range n {
			x.Put(key(i*7919%n, "x"), i)
		}
		checkDepth(t, x, order)
		for i := range n {
			k := i * 7919 % n
			if l := x.Get(key(k, "x")); len(l) != 1 || l[0] != i {
				t.Fatal(i, l)
			}
			if l := x.Prefix(key(k)); len(l) != 1 || l[0] != i {
				t.Fatal(i, l)
			}
			if l := x.Range(key(k), key(k+1)); len(l) != 1 || l[0] != i {
				t.Fatal(i, l)
			}
		}
		for i := range n {
			if !x.Delete(key(i*7919%n, "x"), i) || x.Len() != n-i-1 {
				t.Fatal(i)
			}
			if i%8192 == 0 {
				checkDepth(t, x, order)
			}
		}
	}
}
