package evolve_test

import (
	"math"
	"strconv"
	"testing"

	"bitemporal/api"
	"bitemporal/evolve"
	"bitemporal/schema"
)

func TestCheck(t *testing.T) {
	seven, long := number(7), "abcdefghijklmnopqrstuvwxy"
	for i, c := range []struct {
		table  api.Table
		change api.Change
		want   api.Errno
	}{
		{api.Table{}, drop("a"), api.ErrSyntax},
		{api.Table{Name: "t"}, api.Change{}, api.ErrColumns},
		{sample(), api.Change{}, api.ErrKind},
		{sample(), api.Change{Kind: 5, Name: "a", To: "z"}, api.ErrKind},
		{sample(), api.Change{Kind: -1}, api.ErrKind},
		{sample(), api.Change{Kind: math.MaxInt, Name: "a"}, api.ErrKind},

		{sample(), add("h", api.KindInt, false, seven), api.OK},
		{sample(), add("h", api.KindInt, true, seven), api.OK},
		{sample(), add("h", api.KindInt, true, api.Value{}), api.OK},
		{sample(), add("h", api.KindText, false, word("")), api.OK},
		{sample(), add("h", api.KindBool, false, truth(0)), api.OK},
		{sample(), add(long[:24], api.KindInt, false, seven), api.OK},
		{wide(11), add("h", api.KindInt, false, seven), api.OK},
		{wide(12), add("h", api.KindInt, false, seven), api.ErrColumns},
		{wide(12), add("", 0, false, api.Value{Kind: 9}), api.ErrColumns},
		{sample(), add("", 0, false, api.Value{Kind: 9}), api.ErrSyntax},
		{sample(), add(long, api.KindInt, false, seven), api.ErrSyntax},
		{sample(), add("H", api.KindInt, false, seven), api.ErrSyntax},
		{sample(), add("int", api.KindInt, false, seven), api.ErrSyntax},
		{sample(), add("a", 0, false, api.Value{Kind: 9}), api.ErrKind},
		{sample(), add("h", api.KindNull, true, api.Value{}), api.ErrKind},
		{sample(), add("h", 4, true, api.Value{}), api.ErrKind},
		{sample(), add("h", -1, true, api.Value{}), api.ErrKind},
		{sample(), add("a", api.KindInt, false, api.Value{Kind: 9}), api.ErrExists},
		{sample(), add("g", api.KindInt, false, seven), api.ErrExists},
		{sample(), add("h", api.KindInt, false, api.Value{Kind: 9}), api.ErrInvalid},
		{sample(), add("h", api.KindInt, false, api.Value{Int: 1}), api.ErrInvalid},
		{sample(), add("h", api.KindText, false, number(api.MaxNumber+1)), api.ErrInvalid},
		{sample(), add("h", api.KindText, false, word("\n")), api.ErrInvalid},
		{sample(), add("h", api.KindBool, true, truth(2)), api.ErrInvalid},
		{sample(), add("h", api.KindInt, false, api.Value{}), api.ErrNull},
		{sample(), add("h", api.KindInt, false, word("7")), api.ErrKind},
		{sample(), add("h", api.KindText, true, seven), api.ErrKind},
		{sample(), add("h", api.KindBool, true, number(1)), api.ErrKind},

		{sample(), drop("a"), api.OK},
		{sample(), drop("b"), api.OK},
		{sample(), drop("g"), api.OK},
		{sample(), drop("d"), api.ErrSchema},
		{sample(), drop("e"), api.ErrSchema},
		{sample(), drop("f"), api.ErrSchema},
		{sample(), drop("h"), api.ErrNotFound},
		{sample(), drop(""), api.ErrNotFound},
		{sample(), drop("A"), api.ErrNotFound},
		{sample(), drop("ab"), api.ErrNotFound},
		{sample(), drop("\xe1"), api.ErrNotFound},
		{wide(1), drop("c0"), api.ErrSchema},

		{sample(), rename("a", "h"), api.OK},
		{sample(), rename("d", "h"), api.OK},
		{sample(), rename("e", "h"), api.OK},
		{sample(), rename("f", "h"), api.OK},
		{sample(), rename("g", long[:24]), api.OK},
		{sample(), rename("h", "i"), api.ErrNotFound},
		{sample(), rename("h", ""), api.ErrNotFound},
		{sample(), rename("", "h"), api.ErrNotFound},
		{sample(), rename("a", ""), api.ErrSyntax},
		{sample(), rename("a", long), api.ErrSyntax},
		{sample(), rename("a", "to"), api.ErrSyntax},
		{sample(), rename("a", "a"), api.ErrExists},
		{sample(), rename("a", "b"), api.ErrExists},
		{sample(), rename("a", "g"), api.ErrExists},
		{wide(12), rename("c10", "c1"), api.ErrExists},
		{wide(12), rename("c1", "c12"), api.OK},

		{sample(), text("a"), api.OK},
		{sample(), text("c"), api.OK},
		{sample(), text("g"), api.OK},
		{sample(), text("b"), api.ErrKind},
		{sample(), text("d"), api.ErrSchema},
		{sample(), text("e"), api.ErrSchema},
		{sample(), text("f"), api.ErrSchema},
		{sample(), text("h"), api.ErrNotFound},
		{sample(), text(""), api.ErrNotFound},
	} {
		if got := check(c.table, c.change); got != c.want {
			t.Error("the model", i, got)
		}
		if got := evolve.Check(c.table, c.change); got != c.want {
			t.Error(i, c.change, got)
		}
		got, err := evolve.Apply(c.table, c.change)
		if err != c.want || err != api.OK && !schema.Same(got, api.Table{}) || err == api.OK && !schema.Same(got, apply(c.table, c.change)) {
			t.Error(i, c.change, got, err)
		}
	}
}

// TestUsedTexts demands that a used column that is a text already is refused as used.
func TestUsedTexts(t *testing.T) {
	table := sample()
	table.Columns[3].Kind, table.Columns[4].Kind, table.Columns[5].Kind = api.KindText, api.KindText, api.KindText
	table.Checks = []api.Expr{op(api.OpIsNull, col(5))}
	for _, name := range []string{"d", "e", "f"} {
		if err := evolve.Check(table, text(name)); err != api.ErrSchema {
			t.Error(name, err)
		}
	}
}

// TestUnusedFields sets each field that a kind does not use.
func TestUnusedFields(t *testing.T) {
	name := func(c *api.Change) { c.Name = "a" }
	to := func(c *api.Change) { c.To = "z" }
	column := []func(c *api.Change){
		func(c *api.Change) { c.Column.Name = "z" },
		func(c *api.Change) { c.Column.Kind = api.KindInt },
		func(c *api.Change) { c.Column.Nullable = true },
		func(c *api.Change) { c.Default.Kind = api.KindInt },
		func(c *api.Change) { c.Default.Int = 1 },
		func(c *api.Change) { c.Default.Text = "z" },
	}
	for _, c := range []struct {
		change api.Change
		fields []func(c *api.Change)
	}{
		{add("h", api.KindInt, false, number(7)), []func(c *api.Change){name, to}},
		{add("", 9, false, number(7)), []func(c *api.Change){name, to}},
		{drop("a"), append(column, to)},
		{drop("none"), append(column, to)},
		{drop("d"), append(column, to)},
		{rename("a", "h"), column},
		{rename("none", ""), column},
		{text("a"), append(column, to)},
		{text("b"), append(column, to)},
	} {
		for i, set := range c.fields {
			changed := c.change
			set(&changed)
			if got := evolve.Check(sample(), changed); got != api.ErrInvalid {
				t.Error(changed, i, got)
			}
			if _, err := evolve.Apply(sample(), changed); err != api.ErrInvalid || evolve.Index(sample(), changed, 0) != -1 {
				t.Error(changed, i, err)
			}
		}
	}
}

func TestApply(t *testing.T) {
	changed, err := evolve.Apply(sample(), drop("a"))
	want := sample()
	want.Columns = want.Columns[1:]
	want.Key = []int{2}
	want.Foreigns = []api.Foreign{{Table: "u", Columns: []int{3, 2}}}
	want.Checks = []api.Expr{op(api.OpOr, op(api.OpIsNull, col(4)), op(api.OpLt, con(number(1)), col(4)))}
	if err != api.OK || !schema.Same(changed, want) {
		t.Error("dropping the first column", changed, err)
	}
	changed, err = evolve.Apply(sample(), drop("g"))
	want = sample()
	want.Columns = want.Columns[:6]
	if err != api.OK || !schema.Same(changed, want) {
		t.Error("dropping the last column", changed, err)
	}
	changed, err = evolve.Apply(sample(), rename("f", "h"))
	want = sample()
	want.Columns[5] = api.Column{Name: "h", Kind: api.KindInt, Nullable: true}
	if err != api.OK || !schema.Same(changed, want) {
		t.Error("renaming a used column", changed, err)
	}
	for name, column := range map[string]api.Column{"a": {Name: "a", Kind: api.KindText}, "c": {Name: "c", Kind: api.KindText, Nullable: true}} {
		changed, err = evolve.Apply(sample(), text(name))
		want = sample()
		want.Columns[schema.Find(want, name)] = column
		if err != api.OK || !schema.Same(changed, want) {
			t.Error("a column that becomes a text", changed, err)
		}
	}
	changed, err = evolve.Apply(sample(), add("h", api.KindBool, true, truth(1)))
	want = sample()
	want.Columns = append(want.Columns, api.Column{Name: "h", Kind: api.KindBool, Nullable: true})
	if err != api.OK || !schema.Same(changed, want) {
		t.Error("adding a column", changed, err)
	}
}

func TestRun(t *testing.T) {
	for i, c := range []struct {
		table   api.Table
		changes []api.Change
		n       int
		want    api.Errno
	}{
		{sample(), nil, 0, api.OK},
		{sample(), []api.Change{}, 0, api.OK},
		{api.Table{}, nil, 0, api.ErrSyntax},
		{api.Table{Name: "t"}, nil, 0, api.ErrColumns},
		{api.Table{Name: "t"}, []api.Change{drop("a")}, 0, api.ErrColumns},
		{sample(), []api.Change{drop("a"), drop("b"), drop("c"), drop("g")}, 4, api.OK},
		{sample(), []api.Change{drop("a"), drop("a")}, 1, api.ErrNotFound},
		{sample(), []api.Change{drop("d"), drop("a")}, 0, api.ErrSchema},
		{sample(), []api.Change{rename("a", "h"), rename("b", "a"), rename("h", "b")}, 3, api.OK},
		{sample(), []api.Change{rename("a", "h"), rename("b", "a"), rename("h", "c")}, 2, api.ErrExists},
		{sample(), []api.Change{drop("a"), add("a", api.KindText, false, word("x")), text("a")}, 2, api.ErrKind},
		{sample(), []api.Change{text("a"), text("a")}, 1, api.ErrKind},
		{wide(12), []api.Change{drop("c5"), add("x", api.KindInt, false, number(1)), add("y", api.KindInt, false, number(1))}, 2, api.ErrColumns},
		{wide(2), []api.Change{drop("c1"), drop("c0")}, 1, api.ErrSchema},
		{sample(), []api.Change{drop("a"), drop("b"), {}}, 2, api.ErrKind},
	} {
		got, n, err := evolve.Run(c.table, c.changes)
		if n != c.n || err != c.want {
			t.Error(i, n, err)
		}
		want := api.Table{}
		if err == api.OK {
			want = c.table
			for _, change := range c.changes {
				want = apply(want, change)
			}
		}
		if !schema.Same(got, want) {
			t.Error(i, got)
		}
	}
}

func TestRunOfManyChanges(t *testing.T) {
	var l []api.Change
	for i := range 1 << 14 {
		name := strconv.Itoa(i)
		l = append(l, add("n"+name, api.KindInt, false, number(i)), rename("n"+name, "m"+name), text("m"+name), drop("m"+name))
	}
	got, n, err := evolve.Run(sample(), l)
	if n != len(l) || err != api.OK || !schema.Same(got, sample()) {
		t.Error(got, n, err)
	}
	got, n, err = evolve.Run(sample(), append(l, drop("h")))
	if n != len(l) || err != api.ErrNotFound || !schema.Same(got, api.Table{}) {
		t.Error(got, n, err)
	}
}

func TestIndex(t *testing.T) {
	for _, c := range []struct {
		change api.Change
		want   []int
	}{
		{drop("a"), []int{-1, 0, 1, 2, 3, 4, 5}},
		{drop("c"), []int{0, 1, -1, 2, 3, 4, 5}},
		{drop("g"), []int{0, 1, 2, 3, 4, 5, -1}},
		{add("h", api.KindInt, true, api.Value{}), []int{0, 1, 2, 3, 4, 5, 6}},
		{rename("a", "h"), []int{0, 1, 2, 3, 4, 5, 6}},
		{text("g"), []int{0, 1, 2, 3, 4, 5, 6}},
		{drop("d"), []int{-1, -1, -1, -1, -1, -1, -1}},
		{drop("h"), []int{-1, -1, -1, -1, -1, -1, -1}},
		{add("a", api.KindInt, true, api.Value{}), []int{-1, -1, -1, -1, -1, -1, -1}},
		{rename("a", "b"), []int{-1, -1, -1, -1, -1, -1, -1}},
		{text("b"), []int{-1, -1, -1, -1, -1, -1, -1}},
		{api.Change{}, []int{-1, -1, -1, -1, -1, -1, -1}},
	} {
		for i, want := range c.want {
			if got := evolve.Index(sample(), c.change, i); got != want {
				t.Error(c.change, i, got)
			}
		}
		for _, i := range []int{-1, 7, 8, math.MinInt, math.MaxInt} {
			if got := evolve.Index(sample(), c.change, i); got != -1 {
				t.Error(c.change, i, got)
			}
		}
	}
	if got := evolve.Index(api.Table{}, drop("a"), 0); got != -1 {
		t.Error(got)
	}
}

func TestLossless(t *testing.T) {
	for kind, want := range map[int]bool{api.ChangeAdd: true, api.ChangeDrop: false, api.ChangeRename: true, api.ChangeText: true, 0: false, 5: false, -1: false, math.MaxInt: false, math.MinInt: false} {
		for _, c := range []api.Change{{}, add("h", api.KindInt, true, api.Value{}), drop("a"), rename("a", "a"), {Default: api.Value{Kind: 9}}} {
			c.Kind = kind
			if got := evolve.Lossless(c); got != want {
				t.Error(c, got)
			}
		}
	}
}
