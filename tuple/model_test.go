package tuple_test

import (
	"slices"
	"strconv"
	"testing"

	"bitemporal/api"
	"bitemporal/tuple"
	"bitemporal/value"
)

// random returns a function that continues a fixed sequence of numbers from 0 to n - 1.
func random(seed uint64) func(n int) int {
	return func(n int) int {
		seed = seed*6364136223846793005 + 1442695040888963407
		return int(seed >> 33 % uint64(n))
	}
}

// row returns a row: ints, texts, booleans, and nil for a null; a value stands for itself.
func row(l ...any) []api.Value {
	r := []api.Value{}
	for _, x := range l {
		switch x := x.(type) {
		case int:
			r = append(r, value.Int(x))
		case string:
			r = append(r, value.Text(x))
		case bool:
			r = append(r, value.Bool(x))
		case api.Value:
			r = append(r, x)
		default:
			r = append(r, value.Null())
		}
	}
	return r
}

// someValue returns one of a few values, among them some that are not valid.
func someValue(next func(n int) int) api.Value {
	l := row(nil, -1, 0, 1, "", "a", "b", false, true, api.Value{Int: 1}, api.Value{Kind: api.KindText, Text: "\n"}, api.Value{Kind: 7})
	return l[next(len(l))]
}

// someRows returns up to nine rows of up to three columns.
func someRows(next func(n int) int) [][]api.Value {
	var l [][]api.Value
	for range next(10) {
		r := []api.Value{}
		for range next(4) {
			r = append(r, someValue(next))
		}
		l = append(l, r)
	}
	return l
}

// order is the definition of the order of rows.
func order(a, b []api.Value) int {
	for i := 0; i < len(a) && i < len(b); i++ {
		if a[i] != b[i] {
			return value.Compare(a[i], b[i])
		}
	}
	switch {
	case len(a) < len(b):
		return -1
	case len(a) > len(b):
		return 1
	}
	return 0
}

// orderBy is the definition of the order of rows by columns.
func orderBy(a, b []api.Value, o []api.Order) int {
	at := func(r []api.Value, i int) api.Value {
		if i >= 0 && i < len(r) {
			return r[i]
		}
		return api.Value{}
	}
	for _, k := range o {
		x, y := at(a, k.Column), at(b, k.Column)
		if x != y && k.Desc {
			return value.Compare(y, x)
		} else if x != y {
			return value.Compare(x, y)
		}
	}
	return order(a, b)
}

// key tells rows apart.
func key(r []api.Value) string {
	s := ""
	for _, v := range r {
		s += strconv.Itoa(v.Kind) + "," + strconv.Itoa(v.Int) + "," + strconv.Quote(v.Text) + ";"
	}
	return s
}

// counts returns how often each row occurs.
func counts(l [][]api.Value) map[string]int {
	m := map[string]int{}
	for _, r := range l {
		m[key(r)]++
	}
	return m
}

func sameCounts(a, b map[string]int) bool {
	for k := range a {
		if a[k] != b[k] {
			return false
		}
	}
	return len(a) == len(b)
}

// shuffled returns the rows in another order.
func shuffled(l [][]api.Value, next func(n int) int) [][]api.Value {
	out := slices.Clone(l)
	for i := range out {
		j := next(len(out))
		out[i], out[j] = out[j], out[i]
	}
	return out
}

func TestCompareIsATotalOrder(t *testing.T) {
	next := random(1)
	for range 400 {
		l := someRows(next)
		for _, a := range l {
			for _, b := range l {
				ab := tuple.Compare(a, b)
				if ab != order(a, b) || ab != -tuple.Compare(b, a) || tuple.Equal(a, b) != (key(a) == key(b)) {
					t.Fatal(a, b, ab)
				}
				for _, c := range l {
					if ab <= 0 && tuple.Compare(b, c) <= 0 && tuple.Compare(a, c) > 0 {
						t.Fatal(a, b, c)
					}
				}
			}
		}
	}
}

func TestSortedLists(t *testing.T) {
	next := random(2)
	for range 3000 {
		l := someRows(next)
		sorted, distinct := tuple.Sort(l), tuple.Distinct(l)
		if !sameCounts(counts(sorted), counts(l)) || !slices.IsSortedFunc(sorted, order) {
			t.Fatal("Sort", l, sorted)
		}
		if again := tuple.Sort(shuffled(l, next)); !slices.EqualFunc(again, sorted, tuple.Equal) {
			t.Fatal("Sort of another order", l, again, sorted)
		}
		if len(distinct) != len(counts(l)) || len(counts(distinct)) != len(counts(l)) || !slices.IsSortedFunc(distinct, order) {
			t.Fatal("Distinct", l, distinct)
		}
		for k := range counts(distinct) {
			if counts(l)[k] == 0 {
				t.Fatal("Distinct", l, distinct)
			}
		}
	}
}

func TestOrderedLists(t *testing.T) {
	next := random(3)
	for range 3000 {
		l := someRows(next)
		var o []api.Order
		for range next(4) {
			o = append(o, api.Order{Column: next(5) - 1, Desc: next(2) == 0})
		}
		want := slices.Clone(l)
		slices.SortFunc(want, func(a, b []api.Value) int { return orderBy(a, b, o) })
		if got := tuple.Order(l, o); !slices.EqualFunc(got, want, tuple.Equal) {
			t.Fatal(l, o, got)
		}
		if got := tuple.Order(shuffled(l, next), o); !slices.EqualFunc(got, want, tuple.Equal) {
			t.Fatal("another order", l, o, got)
		}
	}
}

func TestSameLists(t *testing.T) {
	next := random(4)
	for range 3000 {
		a := someRows(next)
		b := shuffled(a, next)
		if !tuple.Same(a, b) {
			t.Fatal(a, b)
		}
		if len(b) > 0 {
			b[next(len(b))] = row(someValue(next))
		}
		for _, other := range [][][]api.Value{b, append(b, a...), someRows(next)} {
			want := sameCounts(counts(a), counts(other))
			if tuple.Same(a, other) != want || tuple.Same(other, a) != want {
				t.Fatal(a, other, want)
			}
		}
	}
}

func TestPartsOfAConcatenation(t *testing.T) {
	next := random(5)
	for range 1000 {
		l := someRows(next)
		if len(l) < 2 {
			continue
		}
		both := tuple.Concat(l[0], l[1])
		var first, second []int
		for i := range both {
			if i < len(l[0]) {
				first = append(first, i)
			} else {
				second = append(second, i)
			}
		}
		if len(both) != len(l[0])+len(l[1]) || !slices.Equal(tuple.Pick(both, first), l[0]) || !slices.Equal(tuple.Pick(both, second), l[1]) {
			t.Fatal(l[0], l[1], both)
		}
	}
}
