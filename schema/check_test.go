package schema_test

import (
	"math"
	"slices"
	"strconv"
	"testing"

	"bitemporal/api"
	"bitemporal/schema"
	"bitemporal/tuple"
)

// columns returns so many columns with different names.
func columns(n int) []api.Column {
	var l []api.Column
	for i := range n {
		l = append(l, api.Column{Name: "c" + strconv.Itoa(i), Kind: api.KindInt})
	}
	return l
}

func TestCheck(t *testing.T) {
	long := "abcdefghijklmnopqrstuvwxy"
	isNull, u := op(api.OpIsNull, col(1)), api.Foreign{Table: "u", Columns: []int{1}}
	for i, c := range []struct {
		change func(t *api.Table)
		want   api.Errno
	}{
		{func(*api.Table) {}, api.OK},
		{func(t *api.Table) { t.Name = long[:24] }, api.OK},
		{func(t *api.Table) { t.Name = "a" }, api.OK},
		{func(t *api.Table) { t.Name = "" }, api.ErrSyntax},
		{func(t *api.Table) { t.Name = long }, api.ErrSyntax},
		{func(t *api.Table) { t.Name = "T" }, api.ErrSyntax},
		{func(t *api.Table) { t.Name = "table" }, api.ErrSyntax},
		{func(t *api.Table) { t.Columns = nil }, api.ErrColumns},
		{func(t *api.Table) { t.Columns = columns(12) }, api.OK},
		{func(t *api.Table) { t.Columns = columns(13) }, api.ErrColumns},
		{func(t *api.Table) { t.Columns = make([]api.Column, 13) }, api.ErrColumns},
		{func(t *api.Table) { t.Columns[0].Name = "" }, api.ErrSyntax},
		{func(t *api.Table) { t.Columns[3].Name = "key" }, api.ErrSyntax},
		{func(t *api.Table) { t.Columns[0].Kind = api.KindNull }, api.ErrKind},
		{func(t *api.Table) { t.Columns[1].Kind = 4 }, api.ErrKind},
		{func(t *api.Table) { t.Columns[1].Kind = -1 }, api.ErrKind},
		{func(t *api.Table) { t.Columns[3].Name = "a" }, api.ErrExists},
		{func(t *api.Table) { t.Columns[1].Name = "a" }, api.ErrExists},
		{func(t *api.Table) { t.Key = nil }, api.ErrSchema},
		{func(t *api.Table) { t.Key = []int{2} }, api.OK},
		{func(t *api.Table) { t.Key = []int{2, 0} }, api.ErrSchema},
		{func(t *api.Table) { t.Key = []int{0, 0} }, api.ErrSchema},
		{func(t *api.Table) { t.Key = []int{-1} }, api.ErrSchema},
		{func(t *api.Table) { t.Key = []int{4} }, api.ErrSchema},
		{func(t *api.Table) { t.Key = []int{0, math.MaxInt} }, api.ErrSchema},
		{func(t *api.Table) { t.Key = []int{math.MinInt} }, api.ErrSchema},
		{func(t *api.Table) { t.Key = []int{1} }, api.ErrNull},
		{func(t *api.Table) { t.Key = []int{0, 1, 0} }, api.ErrNull},
		{func(t *api.Table) { t.Key = []int{0, 2, 3} }, api.ErrNull},
		{func(t *api.Table) { t.Columns[3].Nullable, t.Key = false, []int{0, 2, 3} }, api.OK},
		{func(t *api.Table) { t.Foreigns = nil }, api.OK},
		{func(t *api.Table) { t.Foreigns = []api.Foreign{u, u, u, u} }, api.OK},
		{func(t *api.Table) { t.Foreigns = []api.Foreign{u, u, u, u, u} }, api.ErrTooLong},
		{func(t *api.Table) { t.Foreigns = make([]api.Foreign, 4) }, api.ErrSyntax},
		{func(t *api.Table) { t.Foreigns = make([]api.Foreign, 5) }, api.ErrTooLong},
		{func(t *api.Table) { t.Foreigns[1].Table = "U" }, api.ErrSyntax},
		{func(t *api.Table) { t.Foreigns[1].Columns = nil }, api.ErrSchema},
		{func(t *api.Table) { t.Foreigns[1].Columns = []int{3, 1, 0, 2} }, api.OK},
		{func(t *api.Table) { t.Foreigns[0].Columns = []int{-1} }, api.ErrSchema},
		{func(t *api.Table) { t.Foreigns[0].Columns = []int{4} }, api.ErrSchema},
		{func(t *api.Table) { t.Foreigns[0].Columns = []int{0, 1, 0} }, api.ErrSchema},
		{func(t *api.Table) { t.Checks = nil }, api.OK},
		{func(t *api.Table) { t.Checks = []api.Expr{isNull, isNull, isNull, isNull} }, api.OK},
		{func(t *api.Table) { t.Checks = []api.Expr{isNull, isNull, isNull, isNull, isNull} }, api.ErrTooLong},
		{func(t *api.Table) { t.Checks = make([]api.Expr, 5) }, api.ErrTooLong},
		{func(t *api.Table) { t.Checks[0] = col(2) }, api.OK},
		{func(t *api.Table) { t.Checks[0] = con(api.Value{}) }, api.OK},
		{func(t *api.Table) { t.Checks[0] = con(truth(0)) }, api.OK},
		{func(t *api.Table) { t.Checks[1] = col(0) }, api.ErrKind},
		{func(t *api.Table) { t.Checks[1] = con(word("x")) }, api.ErrKind},
		{func(t *api.Table) { t.Checks[1] = col(4) }, api.ErrColumns},
		{func(t *api.Table) { t.Checks[1] = api.Expr{} }, api.ErrKind},
		{func(t *api.Table) { t.Checks[1] = api.Expr{Op: api.OpName, Name: "a"} }, api.ErrKind},
		{func(t *api.Table) { t.Checks[1] = con(truth(2)) }, api.ErrInvalid},
		{func(t *api.Table) { t.Checks[1] = op(api.OpEq, col(0), col(1)) }, api.ErrKind},
		{func(t *api.Table) { t.Checks[1] = op(api.OpNot) }, api.ErrInvalid},
		{func(t *api.Table) { t.Checks[1] = nested(24) }, api.OK},
		{func(t *api.Table) { t.Checks[1] = nested(25) }, api.ErrDepth},
		{func(t *api.Table) { t.Checks[1] = nested(1 << 16) }, api.ErrDepth},
	} {
		table := sample()
		c.change(&table)
		if got := schema.Check(table); got != c.want {
			t.Error(i, got)
		}
		if got := check(table, keywords()); got != c.want {
			t.Error("the model", i, got)
		}
	}
	if schema.Check(api.Table{}) != api.ErrSyntax {
		t.Error("the definition without fields is valid")
	}
}

// TestCheckOrder breaks a table in one place after the other, from the last to the first, so that each error hides those before.
func TestCheckOrder(t *testing.T) {
	table := sample()
	for i, c := range []struct {
		change func(t *api.Table)
		want   api.Errno
	}{
		{func(t *api.Table) { t.Checks[1] = con(number(1)) }, api.ErrKind},
		{func(t *api.Table) { t.Checks[0] = nested(25) }, api.ErrDepth},
		{func(t *api.Table) { t.Checks = append(t.Checks, t.Checks[1], t.Checks[1], t.Checks[1]) }, api.ErrTooLong},
		{func(t *api.Table) { t.Foreigns[1].Columns = nil }, api.ErrSchema},
		{func(t *api.Table) { t.Foreigns[1].Table = "" }, api.ErrSyntax},
		{func(t *api.Table) { t.Foreigns[0].Columns = []int{1, 1} }, api.ErrSchema},
		{func(t *api.Table) { t.Foreigns[0].Table = "in t" }, api.ErrSyntax},
		{func(t *api.Table) { t.Foreigns = append(t.Foreigns, make([]api.Foreign, 3)...) }, api.ErrTooLong},
		{func(t *api.Table) { t.Columns[2].Nullable = true }, api.ErrNull},
		{func(t *api.Table) { t.Key = []int{0, 9, 2} }, api.ErrSchema},
		{func(t *api.Table) { t.Columns[0].Nullable = true }, api.ErrNull},
		{func(t *api.Table) { t.Key = nil }, api.ErrSchema},
		{func(t *api.Table) { t.Columns[3].Name = "b" }, api.ErrExists},
		{func(t *api.Table) { t.Columns[3].Kind = 9 }, api.ErrKind},
		{func(t *api.Table) { t.Columns[3].Name = "B" }, api.ErrSyntax},
		{func(t *api.Table) { t.Columns[1].Name = "a" }, api.ErrExists},
		{func(t *api.Table) { t.Columns[1].Kind = 0 }, api.ErrKind},
		{func(t *api.Table) { t.Columns[0].Name = "1" }, api.ErrSyntax},
		{func(t *api.Table) { t.Columns = append(t.Columns, columns(9)...) }, api.ErrColumns},
		{func(t *api.Table) { t.Name = "from" }, api.ErrSyntax},
	} {
		c.change(&table)
		if got := schema.Check(table); got != c.want {
			t.Error(i, got)
		}
	}
}

// randomTable returns a table that is often valid.
func randomTable(next func(int) int) api.Table {
	t := api.Table{Name: "t", Columns: columns(1 + next(4))}
	n := len(t.Columns)
	for i := range t.Columns {
		t.Columns[i].Kind = 1 + next(3)
		t.Columns[i].Nullable = i > 0 && next(2) == 0
		if next(3) == 0 && i > 0 && !t.Columns[i].Nullable {
			t.Key = append(t.Key, i)
		}
	}
	t.Key = append([]int{0}, t.Key...)
	for range next(3) {
		t.Foreigns = append(t.Foreigns, api.Foreign{Table: "u", Columns: slices.Compact([]int{next(n), next(n)})})
	}
	for range next(3) {
		t.Checks = append(t.Checks, op(api.OpEq, col(next(n)), []api.Expr{col(next(n)), con(number(7)), con(api.Value{})}[next(3)]))
	}
	return t
}

// damage changes a part of a table that may make it invalid.
func damage(t *api.Table, next func(int) int) {
	i, name := next(len(t.Columns)), []string{"t", "", "c0", "c1", "by", "X"}[next(6)]
	switch next(12) {
	case 0:
		t.Name = name
	case 1:
		t.Columns[i].Name = name
	case 2:
		t.Columns[i].Kind = next(6) - 1
	case 3:
		t.Columns[i].Nullable = !t.Columns[i].Nullable
	case 4:
		t.Columns = append(t.Columns, columns(next(14))...)
	case 5:
		t.Columns = t.Columns[:i]
	case 6:
		t.Key = append(t.Key, next(6)-1)
	case 7:
		t.Key = t.Key[:next(len(t.Key)+1)]
	case 8:
		t.Foreigns = append(t.Foreigns, api.Foreign{Table: name, Columns: []int{next(6) - 1, next(6) - 1}[:next(3)]})
	case 9:
		t.Foreigns = append(t.Foreigns, t.Foreigns...)
	case 10:
		t.Checks = append(t.Checks, []api.Expr{col(next(6) - 1), {}, nested(20 + next(10))}[next(3)])
	case 11:
		t.Checks = append(t.Checks, t.Checks...)
	}
}

func TestCheckOfRandomTables(t *testing.T) {
	next, l := random(2), keywords()
	counts := map[api.Errno]int{}
	for range 200000 {
		table := randomTable(next)
		for range next(3) {
			if len(table.Columns) > 0 {
				damage(&table, next)
			}
		}
		want := check(table, l)
		counts[want]++
		if got := schema.Check(table); got != want {
			t.Fatal(table, got, want)
		}
		if want == api.OK {
			checkConsequences(t, table, next)
		}
	}
	for _, err := range []api.Errno{api.OK, api.ErrSyntax, api.ErrColumns, api.ErrKind, api.ErrExists, api.ErrSchema, api.ErrNull, api.ErrTooLong, api.ErrDepth} {
		if counts[err] < 100 {
			t.Error("only", counts[err], "tables with the error", err)
		}
	}
}

// checkConsequences compares the functions for a valid table and a random row with their definitions.
func checkConsequences(t *testing.T, table api.Table, next func(int) int) {
	for i, c := range table.Columns {
		if got := schema.Find(table, c.Name); got != i {
			t.Fatal(table, c, got)
		}
	}
	row := randomRow(table, next)
	want := accepts(table, row)
	if got := schema.Accepts(table, row); got != want {
		t.Fatal(table, row, got, want)
	}
	if want != api.OK {
		return
	}
	key := schema.Key(table, row)
	if !tuple.Fits(row, schema.Kinds(table)) || len(key) != len(table.Key) {
		t.Fatal(table, row, key)
	}
	for k, i := range table.Key {
		if key[k] != row[i] || key[k].Kind == api.KindNull {
			t.Fatal(table, row, key)
		}
	}
}
