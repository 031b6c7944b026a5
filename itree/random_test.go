package itree_test

import (
	"cmp"
	"math"
	"slices"
	"testing"

	"bitemporal/api"
	"bitemporal/itree"
	"bitemporal/period"
	"bitemporal/testkit"
)

// compare is the order of items.
func compare(a, b api.Counted) int {
	return cmp.Or(period.Compare(a.Period, b.Period), cmp.Compare(a.N, b.N))
}

// model is a set of items, in any order.
type model []api.Counted

func (m *model) add(i api.Counted) bool {
	if !period.Valid(i.Period) || slices.Contains(*m, i) {
		return false
	}
	*m = append(*m, i)
	return true
}

func (m *model) remove(i api.Counted) bool {
	at := slices.Index(*m, i)
	if at < 0 {
		return false
	}
	*m = slices.Delete(*m, at, at+1)
	return true
}

func (m model) items() []api.Counted { return slices.SortedFunc(slices.Values(m), compare) }

// ids returns the ascending identities of the items that meet a condition.
func (m model) ids(holds func(p api.Period) bool) []int {
	var l []int
	for _, i := range m {
		if holds(i.Period) {
			l = append(l, i.N)
		}
	}
	slices.Sort(l)
	return slices.Compact(l)
}

// someItem returns one of about five hundred items, a few of which are not valid.
func someItem(m *testkit.Maker) api.Counted {
	from := m.Below(20) - 1
	return item(from, from+m.Below(8), m.Below(4)-1)
}

// agree ends a test unless a tree and a model have the same items and give the same answers.
func agree(t *testing.T, x *itree.Tree, m model) {
	t.Helper()
	if !itree.Sound(x) || !slices.Equal(x.Items(), m.items()) || x.Len() != len(m) {
		t.Fatal(x.Items(), x.Len(), m)
	}
	for at := -2; at < 28; at++ {
		want := m.ids(func(p api.Period) bool { return period.Contains(p, at) })
		if got := x.Stab(at); !slices.Equal(got, want) {
			t.Fatal("Stab", at, got, want, m)
		}
	}
}

func TestRandomCallsAgainstAModel(t *testing.T) {
	m := testkit.New(29)
	for range 60 {
		x, want := itree.New(), model{}
		growth := 1 + m.Below(4)
		for range 150 {
			i := someItem(m)
			if m.Below(5) < growth {
				if x.Add(i.Period, i.N) != want.add(i) {
					t.Fatal("Add", i, want)
				}
			} else if x.Remove(i.Period, i.N) != want.remove(i) {
				t.Fatal("Remove", i, want)
			}
			p := someItem(m).Period
			overlaps := want.ids(func(q api.Period) bool { return period.Overlaps(p, q) })
			if got := x.Overlap(p); !slices.Equal(got, overlaps) {
				t.Fatal("Overlap", p, got, overlaps)
			}
			checkHeight(t, x)
			agree(t, x, want)
		}
	}
}

// checkHeight ends a test unless the height of a tree is within the bounds that the chapter states.
func checkHeight(t *testing.T, x *itree.Tree) {
	t.Helper()
	n, leaves := x.Len(), 1<<x.Height()
	if leaves < n+1 || leaves > (n+1)*(n+1) {
		t.Fatal("height", x.Height(), "of", n)
	}
}

func TestHeights(t *testing.T) {
	const most = 700
	for name, from := range map[string]func(i int) int{
		"ascending":   func(i int) int { return i },
		"descending":  func(i int) int { return most - i },
		"from inside": func(i int) int { return most + i*(i%2*2-1) },
		"from ends":   func(i int) int { return most + (most-i)*(i%2*2-1) },
		"one place":   func(i int) int { return 5 },
		"scattered":   func(i int) int { return i * 7919 % 1009 },
		"in runs":     func(i int) int { return i%26*100 + i/26 },
	} {
		x := itree.New()
		for i := range most {
			if !x.Add(during(from(i), from(i)+3), i) {
				t.Fatal(name, i)
			}
			checkHeight(t, x)
		}
		if !itree.Sound(x) {
			t.Error(name)
		}
		for _, i := range x.Items() {
			if !x.Remove(i.Period, i.N) {
				t.Fatal(name, i)
			}
			checkHeight(t, x)
		}
	}
}

func TestOrderOfInsertionDoesNotMatter(t *testing.T) {
	m := testkit.New(5)
	for range 100 {
		var items model
		for range m.Below(40) {
			items.add(someItem(m))
		}
		x, y := itree.New(), itree.New()
		for _, i := range items {
			x.Add(i.Period, i.N)
		}
		for _, i := range shuffled(m, items) {
			for range m.Below(3) {
				more := someItem(m)
				if y.Add(more.Period, more.N) {
					y.Remove(more.Period, more.N)
				}
			}
			y.Add(i.Period, i.N)
		}
		agree(t, x, items)
		agree(t, y, items)
	}
}

// shuffled returns a list in another order.
func shuffled(m *testkit.Maker, l []api.Counted) []api.Counted {
	l = slices.Clone(l)
	for i := range l {
		j := m.Below(len(l))
		l[i], l[j] = l[j], l[i]
	}
	return l
}

func TestOverlapIsTheUnionOfStabs(t *testing.T) {
	m := testkit.New(6)
	for range 100 {
		x := itree.New()
		for range m.Below(40) {
			i := someItem(m)
			x.Add(i.Period, i.N)
		}
		for from := range 20 {
			var union []int
			for to := from + 1; to < 26; to++ {
				union = append(union, x.Stab(to-1)...)
				slices.Sort(union)
				union = slices.Compact(union)
				if got := x.Overlap(during(from, to)); !slices.Equal(got, union) {
					t.Fatal(from, to, got, union, x.Items())
				}
			}
		}
	}
}

func TestAnyArguments(t *testing.T) {
	m := testkit.New(7)
	numbers := []int{math.MinInt, math.MinInt + 1, -api.Forever, -1, 0, 1, 2, api.Forever - 1, api.Forever, api.Forever + 1, math.MaxInt - 1, math.MaxInt}
	some := func() int { return numbers[m.Below(len(numbers))] }
	x, want := itree.New(), model{}
	for range 5000 {
		i := item(some(), some(), some())
		if m.Chance(3) {
			if x.Remove(i.Period, i.N) != want.remove(i) {
				t.Fatal("Remove", i)
			}
		} else if x.Add(i.Period, i.N) != want.add(i) {
			t.Fatal("Add", i)
		}
		p, at := during(some(), some()), some()
		if got := x.Overlap(p); !slices.Equal(got, want.ids(func(q api.Period) bool { return period.Overlaps(p, q) })) {
			t.Fatal("Overlap", p, got, want)
		}
		if got := x.Stab(at); !slices.Equal(got, want.ids(func(q api.Period) bool { return period.Contains(q, at) })) {
			t.Fatal("Stab", at, got, want)
		}
		if !itree.Sound(x) || !slices.Equal(x.Items(), want.items()) {
			t.Fatal(x.Items(), want)
		}
	}
}

// TestManyItems takes very long if a call looks at all items or computes what it could keep.
func TestManyItems(t *testing.T) {
	const n = 1 << 18
	x := itree.New()
	for i := range n {
		x.Add(during(4*i, 4*i+6), i)
	}
	checkHeight(t, x)
	for i := range n {
		if got := x.Stab(4*i + 5); !slices.Equal(got, []int{i, i + 1}[:min(2, n-i)]) {
			t.Fatal(i, got)
		}
		if got := x.Overlap(during(4*i+2, 4*i+4)); !slices.Equal(got, []int{i}) {
			t.Fatal(i, got)
		}
	}
	if l := x.Overlap(during(0, api.Forever)); len(l) != n {
		t.Fatal(len(l))
	}
	for i := range n {
		if !x.Remove(during(4*i, 4*i+6), i) || x.Len() != n-i-1 {
			t.Fatal(i)
		}
		if i%1024 == 0 {
			checkHeight(t, x)
		}
	}
}
