package value_test

import (
	"math"
	"strings"
	"testing"

	"bitemporal/api"
	"bitemporal/value"
)

const most = api.MaxNumber

// raw returns a value of any kind, valid or not.
func raw(kind, n int, text string) api.Value {
	return api.Value{Kind: kind, Int: n, Text: text}
}

// printable are all bytes that a text may contain.
func printable() string {
	var b []byte
	for c := byte(32); c <= 126; c++ {
		b = append(b, c)
	}
	return string(b)
}

// validValues are values of all kinds, among them the limits of each.
func validValues() []api.Value {
	return []api.Value{
		raw(api.KindNull, 0, ""),
		raw(api.KindInt, -most, ""), raw(api.KindInt, -most+1, ""), raw(api.KindInt, -10, ""), raw(api.KindInt, -1, ""), raw(api.KindInt, 0, ""),
		raw(api.KindInt, 1, ""), raw(api.KindInt, 7, ""), raw(api.KindInt, 10, ""), raw(api.KindInt, most-1, ""), raw(api.KindInt, most, ""),
		raw(api.KindText, 0, ""), raw(api.KindText, 0, " "), raw(api.KindText, 0, "'"), raw(api.KindText, 0, "''"), raw(api.KindText, 0, "'a'"), raw(api.KindText, 0, "1"),
		raw(api.KindText, 0, "A"), raw(api.KindText, 0, "NULL"), raw(api.KindText, 0, "a"), raw(api.KindText, 0, "a b"), raw(api.KindText, 0, "ab"), raw(api.KindText, 0, "b"),
		raw(api.KindText, 0, "it's"), raw(api.KindText, 0, "~"), raw(api.KindText, 0, printable()), raw(api.KindText, 0, strings.Repeat("x", 200)), raw(api.KindText, 0, strings.Repeat("'", 200)),
		raw(api.KindBool, 0, ""), raw(api.KindBool, 1, ""),
	}
}

// invalidValues break each condition of a valid value.
func invalidValues() []api.Value {
	return []api.Value{
		raw(api.KindNull, 1, ""), raw(api.KindNull, -1, ""), raw(api.KindNull, 0, "a"),
		raw(api.KindInt, -most-1, ""), raw(api.KindInt, most+1, ""), raw(api.KindInt, math.MinInt, ""), raw(api.KindInt, math.MaxInt, ""), raw(api.KindInt, 3, "a"), raw(api.KindInt, 0, "0"),
		raw(api.KindText, 1, "a"), raw(api.KindText, -1, ""), raw(api.KindText, 0, "\x1f"), raw(api.KindText, 0, "\x7f"), raw(api.KindText, 0, "a\n"), raw(api.KindText, 0, "\x00"),
		raw(api.KindText, 0, "\x80"), raw(api.KindText, 0, "\xff"), raw(api.KindText, 0, "a\xa0"), raw(api.KindText, 0, "é"), raw(api.KindText, 0, "日本"), raw(api.KindText, 0, strings.Repeat("x", 201)),
		raw(api.KindBool, 2, ""), raw(api.KindBool, -1, ""), raw(api.KindBool, 1, "a"), raw(api.KindBool, 0, "FALSE"),
		raw(4, 0, ""), raw(-1, 0, ""), raw(math.MaxInt, 1, "a"), raw(math.MinInt, 0, ""),
	}
}

func allValues() []api.Value {
	return append(validValues(), invalidValues()...)
}

func TestValid(t *testing.T) {
	for _, v := range validValues() {
		if !value.Valid(v) {
			t.Error(v)
		}
	}
	for _, v := range invalidValues() {
		if value.Valid(v) {
			t.Error(v)
		}
	}
}

func TestTextsOfOneByte(t *testing.T) {
	for c := range 256 {
		s := string([]byte{byte(c)})
		want := c >= 32 && c <= 126
		if got := value.Valid(raw(api.KindText, 0, s)); got != want {
			t.Error(c, got)
		}
		if got := value.Text("a" + s); (got != value.Null()) != want {
			t.Error(c, got)
		}
	}
}

func TestConstructors(t *testing.T) {
	null := raw(api.KindNull, 0, "")
	if got := value.Null(); got != null {
		t.Error(got)
	}
	for n, want := range map[int]api.Value{
		0: raw(api.KindInt, 0, ""), 5: raw(api.KindInt, 5, ""), -5: raw(api.KindInt, -5, ""), most: raw(api.KindInt, most, ""), -most: raw(api.KindInt, -most, ""),
		most + 1: null, -most - 1: null, math.MaxInt: null, math.MinInt: null,
	} {
		if got := value.Int(n); got != want {
			t.Error(n, got)
		}
	}
	for s, want := range map[string]api.Value{
		"": raw(api.KindText, 0, ""), "a b": raw(api.KindText, 0, "a b"), "it's": raw(api.KindText, 0, "it's"), "NULL": raw(api.KindText, 0, "NULL"),
		printable(): raw(api.KindText, 0, printable()), strings.Repeat("x", 200): raw(api.KindText, 0, strings.Repeat("x", 200)),
		strings.Repeat("x", 201): null, strings.Repeat("x", 1<<20): null, "a\n": null, "\x7f": null, "\x00": null, "é": null, "\xff": null, strings.Repeat("é", 100): null,
	} {
		if got := value.Text(s); got != want {
			t.Error(s, got)
		}
	}
	if got := value.Bool(true); got != raw(api.KindBool, 1, "") {
		t.Error(got)
	}
	if got := value.Bool(false); got != raw(api.KindBool, 0, "") {
		t.Error(got)
	}
}

// ascending are values, valid or not, in the order of Compare.
func ascending() []api.Value {
	return []api.Value{
		raw(math.MinInt, math.MaxInt, "z"), raw(-1, 9, "z"),
		raw(api.KindNull, -1, "z"), raw(api.KindNull, 0, ""), raw(api.KindNull, 0, "a"), raw(api.KindNull, 1, ""),
		raw(api.KindInt, math.MinInt, ""), raw(api.KindInt, -most, ""), raw(api.KindInt, -10, ""), raw(api.KindInt, -9, ""), raw(api.KindInt, 0, ""), raw(api.KindInt, 0, "a"), raw(api.KindInt, 9, ""), raw(api.KindInt, 10, ""), raw(api.KindInt, most, ""), raw(api.KindInt, math.MaxInt, ""),
		raw(api.KindText, -1, "z"), raw(api.KindText, 0, ""), raw(api.KindText, 0, " "), raw(api.KindText, 0, "10"), raw(api.KindText, 0, "9"), raw(api.KindText, 0, "B"), raw(api.KindText, 0, "a"), raw(api.KindText, 0, "a "), raw(api.KindText, 0, "aa"), raw(api.KindText, 0, "b"), raw(api.KindText, 0, "\x7f"), raw(api.KindText, 0, "é"), raw(api.KindText, 0, "\xff"), raw(api.KindText, 1, ""),
		raw(api.KindBool, 0, ""), raw(api.KindBool, 1, ""), raw(api.KindBool, 2, ""),
		raw(4, 0, ""), raw(math.MaxInt, math.MinInt, ""),
	}
}

func TestCompare(t *testing.T) {
	l := ascending()
	for i, a := range l {
		for j, b := range l {
			want := 0
			if i < j {
				want = -1
			} else if i > j {
				want = 1
			}
			if got := value.Compare(a, b); got != want {
				t.Error(a, b, got)
			}
		}
	}
}

func TestCompareIsATotalOrder(t *testing.T) {
	l := allValues()
	for _, a := range l {
		for _, b := range l {
			ab := value.Compare(a, b)
			if ab != -value.Compare(b, a) || (ab == 0) != (a == b) || ab < -1 || ab > 1 {
				t.Error(a, b, ab)
			}
			for _, c := range l {
				if ab <= 0 && value.Compare(b, c) <= 0 && value.Compare(a, c) > 0 {
					t.Error(a, b, c)
				}
			}
		}
	}
}

func TestEqualAndLess(t *testing.T) {
	for _, c := range []struct {
		a, b        api.Value
		equal, less int
	}{
		{value.Int(1), value.Int(1), api.True, api.False},
		{value.Int(1), value.Int(2), api.False, api.True},
		{value.Int(2), value.Int(1), api.False, api.False},
		{value.Int(-10), value.Int(-9), api.False, api.True},
		{value.Int(-most), value.Int(most), api.False, api.True},
		{value.Text("a"), value.Text("a"), api.True, api.False},
		{value.Text("a"), value.Text("A"), api.False, api.False},
		{value.Text("A"), value.Text("a"), api.False, api.True},
		{value.Text("10"), value.Text("9"), api.False, api.True},
		{value.Text(""), value.Text("a"), api.False, api.True},
		{value.Bool(false), value.Bool(true), api.False, api.True},
		{value.Bool(true), value.Bool(false), api.False, api.False},
		{value.Bool(true), value.Bool(true), api.True, api.False},
		{value.Int(1), value.Text("1"), api.Unknown, api.Unknown},
		{value.Text("1"), value.Int(1), api.Unknown, api.Unknown},
		{value.Int(1), value.Bool(true), api.Unknown, api.Unknown},
		{value.Text("TRUE"), value.Bool(true), api.Unknown, api.Unknown},
		{value.Null(), value.Null(), api.Unknown, api.Unknown},
		{value.Null(), value.Int(1), api.Unknown, api.Unknown},
		{value.Text(""), value.Null(), api.Unknown, api.Unknown},
		{raw(api.KindNull, 3, ""), raw(api.KindNull, 3, ""), api.Unknown, api.Unknown},
		{raw(api.KindNull, 3, "a"), raw(api.KindNull, 4, ""), api.Unknown, api.Unknown},
		{raw(api.KindInt, 3, "a"), raw(api.KindInt, 3, "a"), api.True, api.False},
		{raw(api.KindInt, 3, "a"), raw(api.KindInt, 3, "b"), api.False, api.True},
		{raw(api.KindInt, math.MinInt, ""), raw(api.KindInt, math.MaxInt, ""), api.False, api.True},
		{raw(api.KindBool, 2, ""), raw(api.KindBool, 1, ""), api.False, api.False},
		{raw(9, 1, ""), raw(9, 2, ""), api.False, api.True},
		{raw(9, 1, ""), raw(8, 1, ""), api.Unknown, api.Unknown},
	} {
		if got := value.Equal(c.a, c.b); got != c.equal {
			t.Error(c, got)
		}
		if got := value.Less(c.a, c.b); got != c.less {
			t.Error(c, got)
		}
	}
}

func TestOneOfThreeComparisonsIsTrue(t *testing.T) {
	l := allValues()
	for _, a := range l {
		for _, b := range l {
			results := []int{value.Less(a, b), value.Equal(a, b), value.Less(b, a)}
			want := map[int]int{api.True: 1, api.False: 2}
			if a.Kind != b.Kind || a.Kind == api.KindNull {
				want = map[int]int{api.Unknown: 3}
			}
			got := map[int]int{}
			for _, r := range results {
				got[r]++
			}
			if got[api.True] != want[api.True] || got[api.False] != want[api.False] || got[api.Unknown] != want[api.Unknown] {
				t.Error(a, b, results)
			}
		}
	}
}
