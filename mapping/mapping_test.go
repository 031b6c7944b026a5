package mapping_test

import (
	"math"
	"slices"
	"strconv"
	"testing"

	"bitemporal/api"
	"bitemporal/evolve"
	"bitemporal/mapping"
	"bitemporal/schema"
	"bitemporal/tuple"
)

func row(l ...api.Value) []api.Value { return l }

func TestForward(t *testing.T) {
	full := row(number(-7), number(2), truth(1), word("x"), number(3))
	bare := tuple.Nulls(5)
	for _, c := range []struct {
		change api.Change
		row    []api.Value
		want   []api.Value
	}{
		{add("f", api.KindInt, false, number(7)), full, row(number(-7), number(2), truth(1), word("x"), number(3), number(7))},
		{add("f", api.KindText, true, word("it's")), full, row(number(-7), number(2), truth(1), word("x"), number(3), word("it's"))},
		{add("f", api.KindBool, true, api.Value{}), full, row(number(-7), number(2), truth(1), word("x"), number(3), api.Value{})},
		{add("f", api.KindInt, false, number(7)), bare, append(tuple.Nulls(5), number(7))},
		{drop("a"), full, full[1:]},
		{drop("c"), full, row(number(-7), number(2), word("x"), number(3))},
		{drop("d"), full, row(number(-7), number(2), truth(1), number(3))},
		{drop("d"), bare, tuple.Nulls(4)},
		{rename("b", "z"), full, full},
		{rename("e", "z"), bare, bare},
		{text("a"), full, row(word("-7"), number(2), truth(1), word("x"), number(3))},
		{text("c"), full, row(number(-7), number(2), word("TRUE"), word("x"), number(3))},
		{text("a"), bare, bare},
		{text("c"), bare, bare},
	} {
		if got := mapping.Forward(sample(), c.change, c.row); !slices.Equal(got, c.want) {
			t.Error(c.change, got)
		}
		if got := convert(sample(), []api.Change{c.change}, 0, 1, c.row); !slices.Equal(got, c.want) {
			t.Error("the model", c.change, got)
		}
	}
}

func TestBackward(t *testing.T) {
	null := api.Value{}
	full := row(number(-7), number(2), truth(1), word("x"), number(3))
	for _, c := range []struct {
		change api.Change
		row    []api.Value
		want   []api.Value
	}{
		{add("f", api.KindInt, false, number(7)), append(slices.Clone(full), number(9)), full},
		{add("f", api.KindInt, false, number(7)), tuple.Nulls(6), tuple.Nulls(5)},
		{drop("a"), full[1:], row(null, number(2), truth(1), word("x"), number(3))},
		{drop("c"), row(number(-7), number(2), word("x"), number(3)), row(number(-7), number(2), null, word("x"), number(3))},
		{drop("d"), row(number(-7), number(2), truth(1), number(3)), row(number(-7), number(2), truth(1), null, number(3))},
		{drop("d"), tuple.Nulls(4), tuple.Nulls(5)},
		{rename("b", "z"), full, full},
		{rename("e", "z"), tuple.Nulls(5), tuple.Nulls(5)},
		{text("a"), row(word("-7"), number(2), truth(1), word("x"), number(3)), full},
		{text("c"), row(number(-7), number(2), word("TRUE"), word("x"), number(3)), full},
		{text("a"), tuple.Nulls(5), tuple.Nulls(5)},
		{text("c"), tuple.Nulls(5), tuple.Nulls(5)},
	} {
		if got := mapping.Backward(sample(), c.change, c.row); !slices.Equal(got, c.want) {
			t.Error(c.change, got)
		}
		if got := convert(sample(), []api.Change{c.change}, 1, 0, c.row); !slices.Equal(got, c.want) {
			t.Error("the model", c.change, got)
		}
	}
}

// TestDroppedLast drops the last column, whose null is then inserted behind all values.
func TestDroppedLast(t *testing.T) {
	table := sample()
	table.Foreigns, table.Checks = nil, nil
	full := row(number(-7), number(2), truth(1), word("x"), number(3))
	if got := mapping.Forward(table, drop("e"), full); !slices.Equal(got, full[:4]) {
		t.Error(got)
	}
	if got := mapping.Backward(table, drop("e"), full[:4]); !slices.Equal(got, append(full[:4:4], api.Value{})) {
		t.Error(got)
	}
}

func TestTexts(t *testing.T) {
	for v, s := range map[api.Value]string{
		number(0): "0", number(7): "7", number(-7): "-7", number(api.MaxNumber): "1125899906842624", number(-api.MaxNumber): "-1125899906842624",
	} {
		if got := mapping.Forward(sample(), text("a"), row(v, api.Value{}, api.Value{}, api.Value{}, api.Value{})); len(got) != 5 || got[0] != word(s) {
			t.Error(v, got)
		}
	}
	for v, s := range map[api.Value]string{truth(0): "FALSE", truth(1): "TRUE"} {
		if got := mapping.Forward(sample(), text("c"), row(api.Value{}, api.Value{}, v, api.Value{}, api.Value{})); len(got) != 5 || got[2] != word(s) {
			t.Error(v, got)
		}
	}
}

// TestParsedTexts converts texts back to integers (a) and to booleans (c).
func TestParsedTexts(t *testing.T) {
	null := api.Value{}
	for s, want := range map[string][2]api.Value{
		"0": {number(0), null}, "1": {number(1), null}, "7": {number(7), null}, "-7": {number(-7), null}, "10": {number(10), null},
		"1125899906842624": {number(api.MaxNumber), null}, "-1125899906842624": {number(-api.MaxNumber), null},
		"1125899906842625": {null, null}, "-1125899906842625": {null, null}, "99999999999999999999": {null, null},
		"TRUE": {null, truth(1)}, "FALSE": {null, truth(0)},
		"true": {null, null}, "True": {null, null}, "TRUE ": {null, null}, " FALSE": {null, null},
		"": {null, null}, "NULL": {null, null}, "07": {null, null}, "-0": {null, null}, "+7": {null, null}, "--7": {null, null}, "-": {null, null},
		" 7": {null, null}, "7 ": {null, null}, "7.0": {null, null}, "1_0": {null, null}, "0x7": {null, null}, "1e3": {null, null},
		"'7'": {null, null}, "'TRUE'": {null, null}, "''": {null, null}, "'": {null, null}, "x": {null, null},
	} {
		got := mapping.Backward(sample(), text("a"), row(word(s), null, null, null, null))
		if len(got) != 5 || got[0] != want[0] {
			t.Errorf("%q %v", s, got)
		}
		got = mapping.Backward(sample(), text("c"), row(null, null, word(s), null, null))
		if len(got) != 5 || got[2] != want[1] {
			t.Errorf("%q %v", s, got)
		}
	}
}

func TestInvalidChanges(t *testing.T) {
	for _, c := range []api.Change{
		{}, {Kind: 5}, {Kind: -1, Name: "a"}, drop("b"), drop("e"), drop("z"), drop(""), text("b"), text("d"), text("e"), text("z"),
		rename("a", "a"), rename("a", "d"), rename("z", "y"), rename("a", "A"), rename("a", ""), {Kind: api.ChangeRename, Name: "a", To: "z", Default: number(1)},
		add("a", api.KindInt, false, number(1)), add("f", 0, true, api.Value{}), add("f", api.KindInt, false, api.Value{}), add("f", api.KindInt, false, word("x")), add("to", api.KindInt, false, number(1)),
		add("f", api.KindInt, false, number(api.MaxNumber+1)),
	} {
		if evolve.Check(sample(), c) == api.OK {
			t.Error("the change can be applied", c)
		}
		for n := range 8 {
			if got := mapping.Forward(sample(), c, tuple.Nulls(n)); len(got) != 0 {
				t.Error("forward", c, n, got)
			}
			if got := mapping.Backward(sample(), c, tuple.Nulls(n)); len(got) != 0 {
				t.Error("backward", c, n, got)
			}
		}
	}
	invalid := sample()
	invalid.Key = nil
	for _, table := range []api.Table{{}, invalid} {
		if len(mapping.Forward(table, rename("a", "z"), tuple.Nulls(len(table.Columns)))) != 0 || len(mapping.Backward(table, rename("a", "z"), tuple.Nulls(len(table.Columns)))) != 0 {
			t.Error("an invalid table", table)
		}
	}
}

func TestRowsThatDoNotFit(t *testing.T) {
	one, null := number(1), api.Value{}
	five := []api.Change{rename("a", "z"), text("a"), drop("a"), drop("d"), add("f", api.KindInt, true, null)}
	for _, r := range [][]api.Value{
		nil, {}, {null, null, null, null}, {null, null, null, null, null, null}, {word("1"), one, null, null, one}, {one, one, one, null, one}, {one, one, null, one, one},
		{one, one, null, null, truth(1)}, {one, one, null, word("\n"), one}, {number(api.MaxNumber + 1), one, null, null, one}, {one, one, truth(2), null, one},
		{one, {Kind: 4}, null, null, one}, {one, one, null, {Int: 1}, one}, {one, one, null, null, {Text: "x"}},
	} {
		for _, c := range five {
			if got := mapping.Forward(sample(), c, r); len(got) != 0 {
				t.Error("forward", c, r, got)
			}
		}
	}
	for _, c := range []struct {
		change api.Change
		row    []api.Value
	}{
		{rename("a", "z"), row(word("1"), one, null, null, one)}, {rename("a", "z"), tuple.Nulls(4)}, {rename("a", "z"), nil},
		{text("a"), row(one, one, null, null, one)}, {text("a"), tuple.Nulls(6)}, {text("a"), row(word("\n"), one, null, null, one)},
		{drop("a"), tuple.Nulls(5)}, {drop("a"), tuple.Nulls(3)}, {drop("a"), row(truth(1), one, null, one)},
		{add("f", api.KindInt, true, null), tuple.Nulls(5)}, {add("f", api.KindInt, true, null), tuple.Nulls(7)},
		{add("f", api.KindInt, true, null), row(one, one, null, null, one, word("1"))}, {add("f", api.KindInt, true, null), row(one, one, null, null, one, api.Value{Kind: 9})},
	} {
		if got := mapping.Backward(sample(), c.change, c.row); len(got) != 0 {
			t.Error("backward", c, got)
		}
	}
}

func TestTables(t *testing.T) {
	for _, l := range [][]api.Change{nil, {}, history()[:1], history()} {
		got := mapping.Tables(sample(), l)
		if len(got) != len(l)+1 {
			t.Fatal(l, got)
		}
		for i, table := range got {
			if !schema.Same(table, version(sample(), l, i)) {
				t.Error(i, table)
			}
		}
	}
	names := ""
	for _, table := range mapping.Tables(sample(), history()) {
		for _, c := range table.Columns {
			names += c.Name + strconv.Itoa(c.Kind)
		}
		names += " "
	}
	if names != "a1b1c3d2e1 a1b1c2d2e1 b1c2d2e1 b1c2d2e1a3 b1c2f2e1a3 b1f2e1a3 b1f2e1a2 " {
		t.Error(names)
	}
	invalid := sample()
	invalid.Name = "T"
	for _, l := range [][]api.Change{{{}}, {drop("a"), drop("a")}, append(history(), drop("b")), {rename("a", "z"), text("a"), text("c")}} {
		if got := mapping.Tables(sample(), l); len(got) != 0 {
			t.Error(l, got)
		}
	}
	if len(mapping.Tables(invalid, nil)) != 0 || len(mapping.Tables(invalid, history())) != 0 || len(mapping.Tables(api.Table{}, nil)) != 0 {
		t.Error("versions of an invalid table")
	}
}

func TestConvert(t *testing.T) {
	full := row(number(7), number(2), truth(0), word("x"), number(3))
	for to, want := range []string{
		"(7, 2, FALSE, 'x', 3)", "(7, 2, 'FALSE', 'x', 3)", "(2, 'FALSE', 'x', 3)", "(2, 'FALSE', 'x', 3, TRUE)", "(2, 'FALSE', 'x', 3, TRUE)", "(2, 'x', 3, TRUE)", "(2, 'x', 3, 'TRUE')",
	} {
		if got := tuple.Text(mapping.Convert(sample(), history(), 0, to, full)); got != want {
			t.Error("forward to", to, got)
		}
	}
	last := row(number(2), word("x"), number(3), word("FALSE"))
	for to, want := range []string{
		"(NULL, 2, NULL, 'x', 3)", "(NULL, 2, NULL, 'x', 3)", "(2, NULL, 'x', 3)", "(2, NULL, 'x', 3, FALSE)", "(2, NULL, 'x', 3, FALSE)", "(2, 'x', 3, FALSE)", "(2, 'x', 3, 'FALSE')",
	} {
		if got := tuple.Text(mapping.Convert(sample(), history(), 6, to, last)); got != want {
			t.Error("backward to", to, got)
		}
	}
	middle := row(number(2), word("TRUE"), word("x"), number(3), truth(0))
	for to, want := range []string{
		"(NULL, 2, TRUE, 'x', 3)", "(NULL, 2, 'TRUE', 'x', 3)", "(2, 'TRUE', 'x', 3)", "(2, 'TRUE', 'x', 3, FALSE)", "(2, 'TRUE', 'x', 3, FALSE)", "(2, 'x', 3, FALSE)", "(2, 'x', 3, 'FALSE')",
	} {
		if got := tuple.Text(mapping.Convert(sample(), history(), 3, to, middle)); got != want {
			t.Error("from the middle to", to, got)
		}
	}
}

func TestConvertRejects(t *testing.T) {
	for from := -2; from < 10; from++ {
		for to := -2; to < 10; to++ {
			for n := range 8 {
				want := from >= 0 && from < 7 && to >= 0 && to < 7 && n == []int{5, 5, 4, 5, 5, 4, 4}[from]
				if got := mapping.Convert(sample(), history(), from, to, tuple.Nulls(n)); (len(got) > 0) != want {
					t.Error(from, to, n, got)
				}
			}
		}
	}
	for _, x := range []int{math.MinInt, -1, 7, math.MaxInt} {
		if len(mapping.Convert(sample(), history(), 0, x, tuple.Nulls(5))) != 0 || len(mapping.Convert(sample(), history(), x, 0, tuple.Nulls(5))) != 0 || len(mapping.Convert(sample(), history(), x, x, tuple.Nulls(5))) != 0 {
			t.Error(x)
		}
	}
	broken := append(history(), drop("z"))
	if len(mapping.Convert(sample(), broken, 0, 0, tuple.Nulls(5))) != 0 || len(mapping.Convert(sample(), broken, 0, 6, tuple.Nulls(5))) != 0 || len(mapping.Convert(sample(), broken, 6, 0, tuple.Nulls(4))) != 0 {
		t.Error("versions that do not exist")
	}
	if len(mapping.Convert(api.Table{}, nil, 0, 0, nil)) != 0 || len(mapping.Convert(api.Table{Name: "t"}, nil, 0, 0, nil)) != 0 {
		t.Error("an invalid table")
	}
	if got := mapping.Convert(sample(), nil, 0, 0, tuple.Nulls(5)); len(got) != 5 {
		t.Error("no changes", got)
	}
	if got := mapping.Convert(sample(), history(), 1, 0, row(number(7), number(2), truth(0), word("x"), number(3))); len(got) != 0 {
		t.Error("a row of another version", got)
	}
}

// TestUsedColumns demands that a change which cannot be applied only because of a check or a foreign key is rejected.
func TestUsedColumns(t *testing.T) {
	table := sample()
	table.Foreigns = nil
	if len(mapping.Convert(table, []api.Change{drop("e")}, 0, 1, tuple.Nulls(5))) != 0 || mapping.Column(table, []api.Change{drop("e")}, 0, 1, 0) != -1 {
		t.Error("a column of a check was dropped")
	}
	table = sample()
	table.Checks = nil
	if len(mapping.Convert(table, []api.Change{drop("e")}, 0, 1, tuple.Nulls(5))) != 0 || mapping.Column(table, []api.Change{text("e")}, 0, 1, 0) != -1 {
		t.Error("a column of a foreign key was changed")
	}
}

func TestColumn(t *testing.T) {
	for _, c := range []struct {
		from int
		want [][]int
	}{
		{0, [][]int{{0, 0, -1, -1, -1, -1, -1}, {1, 1, 0, 0, 0, 0, 0}, {2, 2, 1, 1, 1, -1, -1}, {3, 3, 2, 2, 2, 1, 1}, {4, 4, 3, 3, 3, 2, 2}}},
		{3, [][]int{{1, 1, 0, 0, 0, 0, 0}, {2, 2, 1, 1, 1, -1, -1}, {3, 3, 2, 2, 2, 1, 1}, {4, 4, 3, 3, 3, 2, 2}, {-1, -1, -1, 4, 4, 3, 3}}},
		{6, [][]int{{1, 1, 0, 0, 0, 0, 0}, {3, 3, 2, 2, 2, 1, 1}, {4, 4, 3, 3, 3, 2, 2}, {-1, -1, -1, 4, 4, 3, 3}}},
	} {
		for i, l := range c.want {
			for to, want := range l {
				if got := mapping.Column(sample(), history(), c.from, to, i); got != want {
					t.Error(c.from, to, i, got)
				}
			}
		}
		for to := range 7 {
			for _, i := range []int{math.MinInt, -1, len(c.want), len(c.want) + 1, math.MaxInt} {
				if got := mapping.Column(sample(), history(), c.from, to, i); got != -1 {
					t.Error(c.from, to, i, got)
				}
			}
		}
		for _, x := range []int{math.MinInt, -1, 7, 8, math.MaxInt} {
			if mapping.Column(sample(), history(), c.from, x, 0) != -1 || mapping.Column(sample(), history(), x, c.from, 0) != -1 || mapping.Column(sample(), history(), x, x, 0) != -1 {
				t.Error(c.from, x)
			}
		}
	}
	broken := append(history(), drop("z"))
	for to := range 8 {
		if mapping.Column(sample(), broken, 0, to, 1) != -1 || mapping.Column(sample(), broken, to, 0, 1) != -1 {
			t.Error("versions that do not exist", to)
		}
	}
	if mapping.Column(api.Table{}, nil, 0, 0, 0) != -1 || mapping.Column(sample(), nil, 0, 0, 4) != 4 || mapping.Column(sample(), nil, 0, 0, 5) != -1 {
		t.Error("without changes")
	}
}

// TestManyChanges uses more changes than a table of a catalog may have.
func TestManyChanges(t *testing.T) {
	var l []api.Change
	for i := range 1000 {
		name := "n" + strconv.Itoa(i)
		l = append(l, add(name, api.KindInt, false, number(i)), text(name), drop(name), rename("d", "x"), rename("x", "d"))
	}
	full := row(number(7), number(2), truth(0), word("x"), number(3))
	if got := mapping.Convert(sample(), l, 0, len(l), full); !slices.Equal(got, full) {
		t.Error(got)
	}
	if got := mapping.Convert(sample(), l, len(l), 0, full); !slices.Equal(got, full) {
		t.Error(got)
	}
	if got := mapping.Convert(sample(), l, 0, len(l)-3, full); !slices.Equal(got, append(full[:5:5], word("999"))) {
		t.Error(got)
	}
	if got := mapping.Convert(sample(), l, len(l)-3, 1, append(full[:5:5], word("999"))); !slices.Equal(got, append(full[:5:5], api.Value{})) {
		t.Error(got)
	}
	if mapping.Column(sample(), l, 0, len(l), 4) != 4 || mapping.Column(sample(), l, 1, 2, 5) != 5 || mapping.Column(sample(), l, 1, 6, 5) != -1 || mapping.Column(sample(), l, len(l)-4, 1, 5) != -1 {
		t.Error("Column")
	}
	if tables := mapping.Tables(sample(), l); len(tables) != len(l)+1 || !schema.Same(tables[len(l)], sample()) {
		t.Error("Tables")
	}
}
