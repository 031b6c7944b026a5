package tuple_test

import (
	"math"
	"slices"
	"strings"
	"testing"

	"bitemporal/api"
	"bitemporal/tuple"
)

func TestFits(t *testing.T) {
	const i, s, b = api.KindInt, api.KindText, api.KindBool
	long := strings.Repeat("x", api.MaxText)
	for _, c := range []struct {
		row   []api.Value
		kinds []int
		want  bool
	}{
		{nil, nil, true},
		{row(), []int{}, true},
		{row(1, "a", true), []int{i, s, b}, true},
		{row(nil, nil, nil), []int{i, s, b}, true},
		{row(api.MaxNumber, long, false), []int{i, s, b}, true},
		{row(nil), []int{api.KindNull}, true},
		{row(nil), []int{99}, true},
		{row(nil), nil, false},
		{row(), []int{i}, false},
		{row(1), []int{i, s}, false},
		{row(1, nil), []int{i}, false},
		{row(1, "a"), []int{s, i}, false},
		{row("1"), []int{i}, false},
		{row(1), []int{s}, false},
		{row(1), []int{b}, false},
		{row(true), []int{i}, false},
		{row(1), []int{api.KindNull}, false},
		{row(1), []int{99}, false},
		{row(api.Value{Kind: 99}), []int{99}, false},
		{row(api.Value{Kind: i, Int: api.MaxNumber + 1}), []int{i}, false},
		{row(api.Value{Kind: i, Text: "a"}), []int{i}, false},
		{row(api.Value{Kind: s, Text: long + "x"}), []int{s}, false},
		{row(api.Value{Kind: s, Text: "\n"}), []int{s}, false},
		{row(api.Value{Kind: b, Int: 2}), []int{b}, false},
		{row(api.Value{Int: 1}), []int{i}, false},
		{row(api.Value{Text: "a"}), []int{s}, false},
		{row(1, 1, api.Value{Kind: -1}), []int{i, i, i}, false},
	} {
		if got := tuple.Fits(c.row, c.kinds); got != c.want {
			t.Error(c, got)
		}
	}
}

func TestCompareAndEqual(t *testing.T) {
	ascending := [][]api.Value{
		{}, row(nil), row(nil, nil), row(nil, 1), row(api.Value{Int: 1}), row(-1), row(1), row(1, nil), row(1, 1), row(1, 1, nil), row(1, "a"), row(1, "b"), row(2), row(2, 1),
		row(10), row(""), row("", 7), row("a"), row("a", false), row("aa"), row(false), row(true), row(true, nil, nil), row(api.Value{Kind: 4}),
	}
	for i, a := range ascending {
		for j, b := range ascending {
			want := 0
			if i < j {
				want = -1
			} else if i > j {
				want = 1
			}
			if got := tuple.Compare(a, b); got != want {
				t.Error(a, b, got)
			}
			if got := tuple.Equal(a, b); got != (i == j) {
				t.Error(a, b, got)
			}
		}
	}
	if tuple.Compare(nil, row()) != 0 || tuple.Compare(nil, row(nil)) != -1 || tuple.Compare(row(nil), nil) != 1 || !tuple.Equal(row(), nil) || tuple.Equal(row(nil), nil) {
		t.Error("an empty row is not the first one")
	}
}

func TestPick(t *testing.T) {
	r := row(1, "b", true)
	for _, c := range []struct {
		row  []api.Value
		l    []int
		want []api.Value
	}{
		{r, nil, nil},
		{r, []int{0, 1, 2}, row(1, "b", true)},
		{r, []int{2, 0}, row(true, 1)},
		{r, []int{1, 1, 1, 0}, row("b", "b", "b", 1)},
		{r, []int{3}, row(nil)},
		{r, []int{-1, 1, 5}, row(nil, "b", nil)},
		{r, []int{math.MaxInt, math.MinInt}, row(nil, nil)},
		{nil, []int{0}, row(nil)},
		{nil, nil, nil},
		{row(1, "b"), []int{1, 5}, row("b", nil)},
		{row(api.Value{Kind: 9, Int: 4}), []int{0}, row(api.Value{Kind: 9, Int: 4})},
	} {
		if got := tuple.Pick(c.row, c.l); !slices.Equal(got, c.want) {
			t.Error(c, got)
		}
	}
}

func TestConcat(t *testing.T) {
	for _, c := range []struct{ a, b, want []api.Value }{
		{nil, nil, nil},
		{row(1), nil, row(1)},
		{nil, row("a"), row("a")},
		{row(1, nil), row("a", 1), row(1, nil, "a", 1)},
	} {
		if got := tuple.Concat(c.a, c.b); !slices.Equal(got, c.want) {
			t.Error(c, got)
		}
	}
}

func TestNulls(t *testing.T) {
	for n, want := range map[int]int{0: 0, -1: 0, 1: 1, 3: 3, 4095: 4095, 4096: 4096, 4097: 0, math.MinInt: 0, math.MaxInt: 0} {
		got := tuple.Nulls(n)
		if len(got) != want {
			t.Error(n, len(got))
		}
		for _, v := range got {
			if v != (api.Value{}) {
				t.Fatal(n, v)
			}
		}
	}
}

func TestHasNull(t *testing.T) {
	r := row(1, nil, "", api.Value{Int: 4}, api.Value{Text: "a"}, false)
	for _, c := range []struct {
		row  []api.Value
		l    []int
		want bool
	}{
		{r, nil, false},
		{r, []int{0}, false},
		{r, []int{0, 2, 5}, false},
		{r, []int{1}, true},
		{r, []int{0, 2, 1}, true},
		{r, []int{3}, true},
		{r, []int{0, 4}, true},
		{r, []int{6}, true},
		{r, []int{-1}, true},
		{r, []int{0, math.MaxInt}, true},
		{r, []int{math.MinInt}, true},
		{nil, []int{0}, true},
		{nil, nil, false},
	} {
		if got := tuple.HasNull(c.row, c.l); got != c.want {
			t.Error(c.l, got)
		}
	}
}

func TestText(t *testing.T) {
	for _, c := range []struct {
		row  []api.Value
		want string
	}{
		{nil, "()"},
		{row(), "()"},
		{row(1), "(1)"},
		{row(1, "a", nil), "(1, 'a', NULL)"},
		{row(-5, "it's", "", true, false), "(-5, 'it''s', '', TRUE, FALSE)"},
		{row("a, b", "(", ")"), "('a, b', '(', ')')"},
		{row(1, api.Value{Kind: 9}, 2), "(1, , 2)"},
	} {
		if got := tuple.Text(c.row); got != c.want {
			t.Error(c, got)
		}
	}
}

// text returns the texts of rows.
func text(l [][]api.Value) string {
	s := ""
	for _, r := range l {
		s += tuple.Text(r)
	}
	return s
}

func TestSortAndDistinct(t *testing.T) {
	for _, c := range []struct {
		l              [][]api.Value
		sort, distinct string
	}{
		{nil, "", ""},
		{[][]api.Value{nil, {}}, "()()", "()"},
		{[][]api.Value{row(1)}, "(1)", "(1)"},
		{[][]api.Value{row(2), row(1), row(2), row(1), row(2)}, "(1)(1)(2)(2)(2)", "(1)(2)"},
		{[][]api.Value{row(1, "b"), row(2, "a"), row(1, "a"), row(1, "b")}, "(1, 'a')(1, 'b')(1, 'b')(2, 'a')", "(1, 'a')(1, 'b')(2, 'a')"},
		{[][]api.Value{row(true), row("a"), row(7), row(nil)}, "(NULL)(7)('a')(TRUE)", "(NULL)(7)('a')(TRUE)"},
		{[][]api.Value{row(nil), row(nil), row(nil, nil)}, "(NULL)(NULL)(NULL, NULL)", "(NULL)(NULL, NULL)"},
		{[][]api.Value{row(1, 2), row(1), {}}, "()(1)(1, 2)", "()(1)(1, 2)"},
	} {
		if got := text(tuple.Sort(c.l)); got != c.sort {
			t.Error("Sort", c.l, got)
		}
		if got := text(tuple.Distinct(c.l)); got != c.distinct {
			t.Error("Distinct", c.l, got)
		}
	}
}

func TestSame(t *testing.T) {
	l := [][]api.Value{row(1), row(2), row(1)}
	for _, c := range []struct {
		a, b [][]api.Value
		want bool
	}{
		{nil, nil, true},
		{nil, [][]api.Value{}, true},
		{[][]api.Value{nil}, [][]api.Value{{}}, true},
		{l, [][]api.Value{row(2), row(1), row(1)}, true},
		{l, [][]api.Value{row(2), row(2), row(1)}, false},
		{l, [][]api.Value{row(1), row(2)}, false},
		{l, [][]api.Value{row(1), row(2), row(1), row(1)}, false},
		{l, nil, false},
		{nil, [][]api.Value{{}}, false},
		{[][]api.Value{row(nil)}, [][]api.Value{row(nil)}, true},
		{[][]api.Value{row(nil)}, [][]api.Value{row(api.Value{Int: 1})}, false},
		{[][]api.Value{row(1)}, [][]api.Value{row("1")}, false},
		{[][]api.Value{row(1, nil)}, [][]api.Value{row(1)}, false},
	} {
		if tuple.Same(c.a, c.b) != c.want || tuple.Same(c.b, c.a) != c.want {
			t.Error(c)
		}
	}
}

func TestOrder(t *testing.T) {
	l := [][]api.Value{row(1, "b"), row(2, "a"), row(1, "a"), row(nil, "a"), row(1, "a"), row(3)}
	for _, c := range []struct {
		o    []api.Order
		want string
	}{
		{nil, "(NULL, 'a')(1, 'a')(1, 'a')(1, 'b')(2, 'a')(3)"},
		{[]api.Order{{Column: 0}}, "(NULL, 'a')(1, 'a')(1, 'a')(1, 'b')(2, 'a')(3)"},
		{[]api.Order{{Column: 0, Desc: true}}, "(3)(2, 'a')(1, 'a')(1, 'a')(1, 'b')(NULL, 'a')"},
		{[]api.Order{{Column: 1}}, "(3)(NULL, 'a')(1, 'a')(1, 'a')(2, 'a')(1, 'b')"},
		{[]api.Order{{Column: 1, Desc: true}}, "(1, 'b')(NULL, 'a')(1, 'a')(1, 'a')(2, 'a')(3)"},
		{[]api.Order{{Column: 1}, {Column: 0, Desc: true}}, "(3)(2, 'a')(1, 'a')(1, 'a')(NULL, 'a')(1, 'b')"},
		{[]api.Order{{Column: 0, Desc: true}, {Column: 1, Desc: true}}, "(3)(2, 'a')(1, 'b')(1, 'a')(1, 'a')(NULL, 'a')"},
		{[]api.Order{{Column: 0, Desc: true}, {Column: 0}}, "(3)(2, 'a')(1, 'a')(1, 'a')(1, 'b')(NULL, 'a')"},
		{[]api.Order{{Column: 2, Desc: true}}, "(NULL, 'a')(1, 'a')(1, 'a')(1, 'b')(2, 'a')(3)"},
		{[]api.Order{{Column: -1, Desc: true}, {Column: math.MaxInt}, {Column: math.MinInt}, {Column: 0, Desc: true}}, "(3)(2, 'a')(1, 'a')(1, 'a')(1, 'b')(NULL, 'a')"},
	} {
		if got := text(tuple.Order(l, c.o)); got != c.want {
			t.Error(c.o, got)
		}
	}
	if got := tuple.Order(nil, []api.Order{{Column: 0}}); len(got) != 0 {
		t.Error(got)
	}
}

func TestManyRows(t *testing.T) {
	const n = 100000
	next := random(6)
	var l [][]api.Value
	for range n {
		l = append(l, row(next(1000), "a", nil))
	}
	sorted := tuple.Sort(l)
	if len(sorted) != n || !slices.IsSortedFunc(sorted, order) || len(tuple.Distinct(l)) != 1000 || !tuple.Same(l, sorted) {
		t.Error("many rows")
	}
	if got := tuple.Order(l, []api.Order{{Column: 0, Desc: true}}); got[0][0] != sorted[n-1][0] || got[n-1][0] != sorted[0][0] {
		t.Error(got[0], got[n-1])
	}
}

// spare is a value in the spare capacity of arguments.
func spare() api.Value { return api.Value{Kind: 77, Int: 77, Text: "spare"} }

// roomy returns a copy of a row with spare capacity.
func roomy(r []api.Value) []api.Value {
	whole := append(slices.Clone(r), spare(), spare(), spare())
	return whole[:len(r)]
}

func TestArgumentsAreKept(t *testing.T) {
	shared := roomy(row(2, "a"))
	l := append([][]api.Value{shared, roomy(row(1, "b")), shared, roomy(row(3)), shared[:1]}, shared)[:5]
	a, b := roomy(row(1, 2)), roomy(row(3))
	columns, o := []int{1, 0, 5}, []api.Order{{Column: 1, Desc: true}}
	results := func() [][][]api.Value {
		return [][][]api.Value{
			tuple.Sort(l), tuple.Distinct(l), tuple.Order(l, o), tuple.Order(l, nil),
			{tuple.Pick(a, columns), tuple.Concat(a, b), tuple.Concat(a, nil), tuple.Concat(nil, b), tuple.Nulls(3)},
		}
	}
	var want []string
	for _, r := range results() {
		want = append(want, text(r))
	}
	for i, r := range results() {
		overwrite(t, r, want[i])
	}
	for i, r := range results() {
		if got := text(r); got != want[i] {
			t.Error("again", got, want[i])
		}
	}
	tuple.Same(l, l)
	if got := text(l[:6]); got != "(2, 'a')(1, 'b')(2, 'a')(3)(2)(2, 'a')" {
		t.Error("an argument was changed", got)
	}
	for _, r := range [][]api.Value{shared, l[1], l[3], a, b} {
		if rest := r[len(r):cap(r)]; rest[0] != spare() || rest[1] != spare() || rest[2] != spare() {
			t.Error("the spare capacity of an argument was used", rest)
		}
	}
	if !slices.Equal(columns, []int{1, 0, 5}) || !slices.Equal(o, []api.Order{{Column: 1, Desc: true}}) {
		t.Error(columns, o)
	}
}

// overwrite changes each row of a result, with its spare capacity, and checks that the rows after it are still as in the text.
func overwrite(t *testing.T, l [][]api.Value, text string) {
	for _, r := range l {
		own := tuple.Text(r)
		if !strings.HasPrefix(text, own) {
			t.Error("rows share memory", own, text)
		}
		text = strings.TrimPrefix(text, own)
		clear(r[:cap(r)])
	}
}
