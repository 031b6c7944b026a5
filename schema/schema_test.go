package schema_test

import (
	"math"
	"slices"
	"strings"
	"testing"

	"bitemporal/api"
	"bitemporal/expr"
	"bitemporal/schema"
	"bitemporal/tuple"
)

func TestKinds(t *testing.T) {
	for _, want := range [][]int{nil, {1}, {1, 2, 3, 1}, {0, -7, math.MaxInt}, make([]int, 100)} {
		var table api.Table
		for _, k := range want {
			table.Columns = append(table.Columns, api.Column{Kind: k})
		}
		if got := schema.Kinds(table); !slices.Equal(got, want) {
			t.Error(want, got)
		}
	}
	if got := schema.Kinds(sample()); !slices.Equal(got, []int{api.KindInt, api.KindText, api.KindBool, api.KindInt}) {
		t.Error(got)
	}
}

func TestFind(t *testing.T) {
	twice := api.Table{Columns: []api.Column{{Name: "x"}, {Name: "Y z"}, {}, {Name: "Y z"}, {Name: "x"}}}
	for _, c := range []struct {
		table api.Table
		name  string
		want  int
	}{
		{sample(), "a", 0}, {sample(), "b", 1}, {sample(), "c", 2}, {sample(), "d", 3},
		{sample(), "e", -1}, {sample(), "", -1}, {sample(), "A", -1}, {sample(), "a ", -1}, {sample(), "t", -1},
		{twice, "x", 0}, {twice, "Y z", 1}, {twice, "", 2}, {twice, "y", -1},
		{api.Table{}, "", -1}, {api.Table{}, "a", -1}, {api.Table{Name: "a"}, "a", -1},
		{api.Table{Columns: columns(100)}, "c99", 99},
	} {
		if got := schema.Find(c.table, c.name); got != c.want {
			t.Error(c, got)
		}
	}
}

func TestKey(t *testing.T) {
	row := []api.Value{number(1), word("x"), truth(1), {Kind: 9, Int: 5}}
	for _, c := range []struct {
		key  []int
		row  []api.Value
		want []api.Value
	}{
		{[]int{0, 2}, row, []api.Value{number(1), truth(1)}},
		{[]int{1}, row, []api.Value{word("x")}},
		{nil, row, nil},
		{[]int{2, 2, 0}, row, []api.Value{truth(1), truth(1), number(1)}},
		{[]int{3, 4, -1, math.MaxInt, math.MinInt}, row, []api.Value{{Kind: 9, Int: 5}, {}, {}, {}, {}}},
		{[]int{0, 1}, row[:1], []api.Value{number(1), {}}},
		{[]int{0}, nil, []api.Value{{}}},
	} {
		table := sample()
		table.Key = c.key
		if got := schema.Key(table, c.row); !slices.Equal(got, c.want) {
			t.Error(c, got)
		}
		if got := schema.Key(api.Table{Key: c.key}, c.row); !slices.Equal(got, c.want) {
			t.Error("without columns", c, got)
		}
	}
}

func TestAccepts(t *testing.T) {
	null, one, x, yes := api.Value{}, number(1), word("x"), truth(1)
	for _, c := range []struct {
		row  []api.Value
		want api.Errno
	}{
		{[]api.Value{one, x, yes, one}, api.OK},
		{[]api.Value{one, null, yes, null}, api.OK},
		{[]api.Value{number(-api.MaxNumber), word(strings.Repeat("~", 200)), truth(0), number(api.MaxNumber)}, api.OK},
		{nil, api.ErrColumns},
		{[]api.Value{one, x, yes}, api.ErrColumns},
		{[]api.Value{one, x, yes, one, one}, api.ErrColumns},
		{[]api.Value{{Kind: 7}, x, yes}, api.ErrColumns},
		{[]api.Value{null, x, yes, one}, api.ErrNull},
		{[]api.Value{one, x, null, one}, api.ErrNull},
		{[]api.Value{x, x, yes, one}, api.ErrKind},
		{[]api.Value{one, yes, yes, one}, api.ErrKind},
		{[]api.Value{one, x, one, one}, api.ErrKind},
		{[]api.Value{one, x, yes, x}, api.ErrKind},
		{[]api.Value{{Kind: 7}, x, yes, one}, api.ErrInvalid},
		{[]api.Value{{Int: 1}, x, yes, one}, api.ErrInvalid},
		{[]api.Value{one, {Text: "x"}, yes, one}, api.ErrInvalid},
		{[]api.Value{number(api.MaxNumber + 1), x, yes, one}, api.ErrInvalid},
		{[]api.Value{one, word("\n"), yes, one}, api.ErrInvalid},
		{[]api.Value{one, word(strings.Repeat("x", 201)), yes, one}, api.ErrInvalid},
		{[]api.Value{one, x, truth(2), one}, api.ErrInvalid},
		{[]api.Value{one, number(api.MaxNumber + 1), yes, one}, api.ErrInvalid},
		{[]api.Value{null, {Kind: 7}, yes, one}, api.ErrNull},
		{[]api.Value{x, null, null, {Kind: 7}}, api.ErrKind},
		{[]api.Value{one, {Kind: 7}, null, x}, api.ErrInvalid},
	} {
		if got := schema.Accepts(sample(), c.row); got != c.want {
			t.Error(c, got)
		}
		if got := accepts(sample(), c.row); got != c.want {
			t.Error("the model", c, got)
		}
	}
}

// TestAcceptsOfInvalidTables uses definitions that are not valid, for which Accepts is defined as well.
func TestAcceptsOfInvalidTables(t *testing.T) {
	odd := api.Table{Columns: []api.Column{{Kind: api.KindNull}, {Kind: 9, Nullable: true}}}
	for _, c := range []struct {
		table api.Table
		row   []api.Value
		want  api.Errno
	}{
		{api.Table{}, nil, api.OK},
		{api.Table{}, []api.Value{number(1)}, api.ErrColumns},
		{odd, []api.Value{{}, {}}, api.ErrNull},
		{odd, []api.Value{number(1), {}}, api.ErrKind},
		{odd, []api.Value{{Kind: 9}, {}}, api.ErrInvalid},
		{api.Table{Columns: odd.Columns[1:]}, []api.Value{{}}, api.OK},
		{api.Table{Columns: odd.Columns[1:]}, []api.Value{{Kind: 9}}, api.ErrInvalid},
		{api.Table{Columns: odd.Columns[1:]}, []api.Value{word("")}, api.ErrKind},
		{api.Table{Columns: columns(20)}, slices.Repeat([]api.Value{number(1)}, 20), api.OK},
	} {
		if got := schema.Accepts(c.table, c.row); got != c.want {
			t.Error(c, got)
		}
	}
}

// randomRow returns a row that a table often accepts.
func randomRow(t api.Table, next func(int) int) []api.Value {
	var row []api.Value
	for _, c := range t.Columns {
		v := []api.Value{{}, number(next(9)), word("x"), truth(next(2))}[c.Kind]
		switch next(12) {
		case 0:
			v = []api.Value{number(3), word("a"), truth(0), {Kind: 4}, {Int: 1}, truth(2), word("\n"), number(api.MaxNumber + 1)}[next(8)]
		case 1, 2:
			v = api.Value{}
		}
		row = append(row, v)
	}
	if next(20) == 0 {
		row = append(row, number(1))
	}
	return row
}

func TestAcceptsOfRandomRows(t *testing.T) {
	next := random(3)
	counts := map[api.Errno]int{}
	for range 100000 {
		table := randomTable(next)
		row := randomRow(table, next)
		want := accepts(table, row)
		counts[want]++
		if got := schema.Accepts(table, row); got != want {
			t.Fatal(table, row, got, want)
		}
		if want == api.OK && (!tuple.Fits(row, schema.Kinds(table)) || tuple.HasNull(schema.Key(table, row), []int{0})) {
			t.Fatal(table, row)
		}
	}
	for _, err := range []api.Errno{api.OK, api.ErrColumns, api.ErrInvalid, api.ErrNull, api.ErrKind} {
		if counts[err] < 1000 {
			t.Error("only", counts[err], "rows with the error", err)
		}
	}
}

// otherTables returns definitions that each differ from the sample in one field.
func otherTables() []api.Table {
	changes := []func(t *api.Table){
		func(t *api.Table) { t.Name = "u" },
		func(t *api.Table) { t.Columns = nil },
		func(t *api.Table) { t.Columns = t.Columns[:3] },
		func(t *api.Table) { t.Columns = append(t.Columns, api.Column{}) },
		func(t *api.Table) { t.Columns[0], t.Columns[1] = t.Columns[1], t.Columns[0] },
		func(t *api.Table) { t.Columns[3].Name = "e" },
		func(t *api.Table) { t.Columns[3].Kind = api.KindText },
		func(t *api.Table) { t.Columns[3].Nullable = false },
		func(t *api.Table) { t.Key = nil },
		func(t *api.Table) { t.Key = []int{0} },
		func(t *api.Table) { t.Key = []int{2, 0} },
		func(t *api.Table) { t.Key = []int{0, 2, 3} },
		func(t *api.Table) { t.Foreigns = nil },
		func(t *api.Table) { t.Foreigns[0], t.Foreigns[1] = t.Foreigns[1], t.Foreigns[0] },
		func(t *api.Table) { t.Foreigns = t.Foreigns[:1] },
		func(t *api.Table) { t.Foreigns = append(t.Foreigns, api.Foreign{}) },
		func(t *api.Table) { t.Foreigns[1].Table = "v" },
		func(t *api.Table) { t.Foreigns[1].Columns = nil },
		func(t *api.Table) { t.Foreigns[1].Columns = []int{2} },
		func(t *api.Table) { t.Foreigns[1].Columns = []int{1, 2} },
		func(t *api.Table) { t.Foreigns[0].Columns = []int{0, 3} },
		func(t *api.Table) { t.Checks = nil },
		func(t *api.Table) { t.Checks = t.Checks[1:] },
		func(t *api.Table) { t.Checks = append(t.Checks, api.Expr{}) },
		func(t *api.Table) { t.Checks[0], t.Checks[1] = t.Checks[1], t.Checks[0] },
		func(t *api.Table) { t.Checks[1].Args[0].Int = 2 },
		func(t *api.Table) { t.Checks[0].Args[1].Value.Int = 6 },
		func(t *api.Table) { t.Checks[1].Name = "x" },
	}
	var l []api.Table
	for _, change := range changes {
		table := sample()
		change(&table)
		l = append(l, table)
	}
	return append(l, api.Table{}, api.Table{Name: "t"})
}

func TestSame(t *testing.T) {
	l := append(otherTables(), sample())
	for i, a := range l {
		for j, b := range l {
			if got := schema.Same(a, b); got != (i == j) {
				t.Error(i, j, got)
			}
		}
	}
	empty := api.Table{Columns: []api.Column{}, Key: []int{}, Foreigns: []api.Foreign{}, Checks: []api.Expr{}}
	if !schema.Same(empty, api.Table{}) || !schema.Same(api.Table{}, empty) {
		t.Error("empty lists differ")
	}
	a, b := api.Table{Foreigns: []api.Foreign{{Columns: []int{}}}}, api.Table{Foreigns: []api.Foreign{{}}}
	if !schema.Same(a, b) || !schema.Same(b, a) {
		t.Error("empty lists of columns differ")
	}
}

func TestClone(t *testing.T) {
	for i, table := range append(otherTables(), sample()) {
		if got := schema.Clone(table); !schema.Same(got, table) {
			t.Error(i, got)
		}
	}
	deep := api.Table{Checks: []api.Expr{nested(1 << 16), {Op: -3, Int: -1, Name: "n", Value: word("\n"), Args: make([]api.Expr, 2)}}}
	if got := schema.Clone(deep); len(got.Checks) != 2 || !schema.Same(got, deep) || expr.Depth(got.Checks[0]) != api.MaxDepth+1 {
		t.Error("a deep definition")
	}
}

// overwrite changes everything in the memory of a definition.
func overwrite(t api.Table) {
	for i := range t.Columns {
		t.Columns[i] = api.Column{Name: "other", Kind: 77}
	}
	for i := range t.Key {
		t.Key[i] = 77
	}
	for i := range t.Foreigns {
		for k := range t.Foreigns[i].Columns {
			t.Foreigns[i].Columns[k] = 77
		}
		t.Foreigns[i] = api.Foreign{Table: "other"}
	}
	for i := range t.Checks {
		for k := range t.Checks[i].Args {
			t.Checks[i].Args[k] = api.Expr{Op: 77}
		}
		t.Checks[i] = api.Expr{Op: 77}
	}
}

func TestMemory(t *testing.T) {
	table := sample()
	first, second := schema.Clone(table), schema.Clone(table)
	overwrite(table)
	if !schema.Same(first, sample()) {
		t.Error("a copy shares memory with its original")
	}
	overwrite(first)
	if !schema.Same(second, sample()) {
		t.Error("two copies share memory")
	}
	row := []api.Value{number(1), word("x"), truth(1), {}}
	key := schema.Key(sample(), row)
	key[0] = number(2)
	if row[0] != number(1) {
		t.Error("a key shares memory with its row")
	}
	for i, k := range [][]int{schema.Kinds(second), schema.Kinds(second)} {
		if k[0] != api.KindInt {
			t.Error(i, "lists of kinds share memory")
		}
		k[0] = 77
	}
}

func TestArgumentsStay(t *testing.T) {
	table, row := sample(), []api.Value{number(1), word("x"), truth(1), {}, word("spare")}[:4]
	table.Columns = append(table.Columns, api.Column{Name: "spare"})[:4]
	table.Key = append(table.Key, 55)[:2]
	table.Foreigns = append(table.Foreigns, api.Foreign{Table: "spare"})[:2]
	table.Checks = append(table.Checks, api.Expr{Op: 55})[:2]
	schema.Check(table)
	schema.Kinds(table)
	schema.Find(table, "d")
	schema.Accepts(table, row)
	schema.Key(table, row)
	schema.Same(table, schema.Clone(table))
	if !schema.Same(table, sample()) || table.Columns[:5][4].Name != "spare" || table.Key[:3][2] != 55 || table.Foreigns[:3][2].Table != "spare" || table.Checks[:3][2].Op != 55 {
		t.Error("a definition was changed")
	}
	if !slices.Equal(row[:5], []api.Value{number(1), word("x"), truth(1), {}, word("spare")}) {
		t.Error("a row was changed")
	}
}
