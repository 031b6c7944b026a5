package catalog_test

import (
	"math"
	"slices"
	"strconv"
	"testing"

	"bitemporal/api"
	"bitemporal/catalog"
	"bitemporal/mapping"
	"bitemporal/schema"
	"bitemporal/tuple"
)

// sample returns a valid catalog: pair and one reference nothing, many references pair, one and itself, late references one.
func sample() []api.Entry {
	return []api.Entry{
		creation(10, table("pair")),
		creation(10, small("one")),
		change(20, "pair", add("e")),
		change(20, "pair", text("c")),
		creation(20, table("many", foreign("pair", 2, 1), foreign("one", 0), foreign("many", 0, 1))),
		change(30, "one", rename("b", "z")),
		change(30, "pair", drop("d")),
		change(40, "many", rename("d", "w")),
		creation(50, small("late", foreign("one", 1), foreign("one", 0))),
	}
}

func TestSample(t *testing.T) {
	if check(sample()) != api.OK || catalog.Check(sample()) != api.OK {
		t.Error("the sample is not valid")
	}
}

func TestCreate(t *testing.T) {
	late := tables(16)
	for i := range late {
		late[i].Time = api.Forever - 1
	}
	var got []api.Entry
	for _, e := range tables(16) {
		l, err := catalog.Create(got, e.Time, e.Create)
		if want := after(got, e); err != api.OK || !sameEntries(l, want) {
			t.Fatal(l, err)
		}
		got = l
	}
	for i, c := range []struct {
		c     []api.Entry
		at    int
		table api.Table
		want  api.Errno
	}{
		{nil, 0, small("t"), api.OK}, {nil, api.Forever - 1, table("t"), api.OK}, {nil, 0, small("t", foreign("t", 1)), api.OK},
		{nil, -1, small("T"), api.ErrRange}, {nil, api.Forever, small("t"), api.ErrRange}, {nil, math.MinInt, small("t"), api.ErrRange}, {nil, math.MaxInt, small("t"), api.ErrRange},
		{nil, 0, api.Table{}, api.ErrSyntax}, {nil, 0, small("select"), api.ErrSyntax}, {nil, 0, api.Table{Name: "t"}, api.ErrColumns}, {nil, 0, small("t", foreign("none", 0)), api.ErrNotFound},
		{sample(), 50, small("t"), api.OK}, {sample(), 49, small("T"), api.ErrOrder}, {sample(), 50, small("one"), api.ErrExists}, {sample(), 50, small("late"), api.ErrExists},
		{sample(), 60, small("t", foreign("late", 1), foreign("t", 0)), api.OK}, {sample(), 60, small("t", foreign("late", 1), foreign("pair", 0)), api.ErrColumns},
		{sample(), 60, small("t", foreign("pair", 0, 1)), api.ErrKind}, {sample(), 60, table("t", foreign("pair", 2, 1)), api.OK}, {sample(), 60, table("t", foreign("one", 1)), api.ErrKind},
		{tables(16), 5, small("t"), api.ErrTooLong}, {tables(16), 5, small("t0"), api.ErrTooLong}, {tables(16), 5, small("T"), api.ErrSyntax}, {tables(16), 4, small("t"), api.ErrOrder},
		{late, api.Forever - 1, small("t"), api.ErrTooLong}, {late[:15], api.Forever - 1, small("t"), api.OK}, {late[:15], api.Forever - 1, small("t0"), api.ErrExists},
		{tables(15), 5, small("t0"), api.ErrExists}, {tables(15), 5, small("t15"), api.OK},
	} {
		want := after(c.c, creation(c.at, c.table))
		if err := check(want); err != c.want {
			t.Error("the model", i, err)
		}
		if c.want != api.OK {
			want = nil
		}
		if got, err := catalog.Create(c.c, c.at, c.table); err != c.want || !sameEntries(got, want) {
			t.Error(i, got, err)
		}
	}
}

func TestAlter(t *testing.T) {
	for i, c := range []struct {
		c      []api.Entry
		at     int
		name   string
		change api.Change
		want   api.Errno
	}{
		{sample(), 50, "one", add("n"), api.OK}, {sample(), 50, "late", drop("a"), api.ErrSchema}, {sample(), 50, "one", drop("z"), api.OK}, {sample(), 50, "one", drop("b"), api.ErrNotFound},
		{sample(), api.Forever - 1, "pair", text("e"), api.OK}, {sample(), 60, "pair", text("c"), api.ErrKind}, {sample(), 60, "pair", drop("d"), api.ErrNotFound}, {sample(), 60, "pair", add("e"), api.ErrExists},
		{sample(), 60, "many", text("c"), api.ErrSchema}, {sample(), 60, "many", text("w"), api.OK}, {sample(), 60, "many", rename("a", "a"), api.ErrExists}, {sample(), 60, "many", rename("a", "to"), api.ErrSyntax},
		{sample(), 49, "none", api.Change{}, api.ErrOrder}, {sample(), -1, "none", api.Change{}, api.ErrRange}, {sample(), api.Forever, "one", drop("z"), api.ErrRange}, {sample(), math.MinInt, "one", drop("z"), api.ErrRange},
		{sample(), 60, "none", api.Change{}, api.ErrNotFound}, {sample(), 60, "", api.Change{}, api.ErrNotFound}, {sample(), 60, "none", drop("z"), api.ErrNotFound}, {nil, 0, "t", drop("z"), api.ErrNotFound}, {nil, 0, "", api.Change{}, api.ErrNotFound},
		{sample(), 60, "one", api.Change{}, api.ErrKind}, {sample(), 60, "one", api.Change{Kind: 5}, api.ErrKind}, {sample(), 60, "one", api.Change{Kind: -1}, api.ErrKind}, {sample(), 60, "one", api.Change{Name: "z"}, api.ErrKind},
		{sample(), 60, "one", api.Change{Kind: api.ChangeDrop, Name: "z", To: "x"}, api.ErrInvalid}, {sample(), 60, "one", api.Change{Kind: api.ChangeAdd, Column: api.Column{Name: "n", Kind: api.KindInt}}, api.ErrNull},
		{renamed(64), 99, "t", api.Change{}, api.ErrTooLong}, {renamed(64), 99, "t", rename("b", "x"), api.ErrTooLong}, {renamed(63), 99, "t", api.Change{}, api.ErrKind}, {renamed(63), 99, "t", rename("x", "b"), api.OK},
	} {
		want := after(c.c, change(c.at, c.name, c.change))
		if c.change != (api.Change{}) && check(want) != c.want {
			t.Error("the model", i, check(want))
		}
		if c.want != api.OK {
			want = nil
		}
		if got, err := catalog.Alter(c.c, c.at, c.name, c.change); err != c.want || !sameEntries(got, want) {
			t.Error(i, got, err)
		}
	}
}

func TestAsOf(t *testing.T) {
	pair := table("pair")
	added := schema.Clone(pair)
	added.Columns = append(added.Columns, api.Column{Name: "e", Kind: api.KindInt})
	added.Columns[2].Kind = api.KindText
	dropped := schema.Clone(added)
	dropped.Columns = slices.Delete(dropped.Columns, 3, 4)
	for _, c := range []struct {
		at   int
		name string
		want api.Table
		n    int
		err  api.Errno
	}{
		{10, "pair", pair, 0, api.OK}, {19, "pair", pair, 0, api.OK}, {20, "pair", added, 2, api.OK}, {29, "pair", added, 2, api.OK}, {30, "pair", dropped, 3, api.OK},
		{api.Forever - 1, "pair", dropped, 3, api.OK}, {api.Forever, "pair", dropped, 3, api.OK}, {math.MaxInt, "pair", dropped, 3, api.OK},
		{9, "pair", api.Table{}, 0, api.ErrNotFound}, {0, "pair", api.Table{}, 0, api.ErrNotFound}, {-1, "pair", api.Table{}, 0, api.ErrNotFound}, {math.MinInt, "pair", api.Table{}, 0, api.ErrNotFound},
		{29, "one", small("one"), 0, api.OK}, {19, "many", api.Table{}, 0, api.ErrNotFound}, {20, "many", sample()[4].Create, 0, api.OK}, {49, "late", api.Table{}, 0, api.ErrNotFound},
		{99, "none", api.Table{}, 0, api.ErrNotFound}, {99, "", api.Table{}, 0, api.ErrNotFound}, {99, "PAIR", api.Table{}, 0, api.ErrNotFound},
	} {
		got, n, err := catalog.AsOf(sample(), c.at, c.name)
		if n != c.n || err != c.err || !schema.Same(got, c.want) {
			t.Error(c.at, c.name, got, n, err)
		}
	}
	if got, n, err := catalog.AsOf(nil, 0, "pair"); n != 0 || err != api.ErrNotFound || !schema.Same(got, api.Table{}) {
		t.Error(got, n, err)
	}
}

func TestNames(t *testing.T) {
	for at, want := range map[int][]string{
		math.MinInt: nil, -1: nil, 0: nil, 9: nil, 10: {"one", "pair"}, 19: {"one", "pair"}, 20: {"many", "one", "pair"}, 49: {"many", "one", "pair"},
		50: {"late", "many", "one", "pair"}, api.Forever: {"late", "many", "one", "pair"}, math.MaxInt: {"late", "many", "one", "pair"},
	} {
		if got := catalog.Names(sample(), at); !slices.Equal(got, want) {
			t.Error(at, got)
		}
	}
	if got := catalog.Names(tables(12), 5); !slices.Equal(got, []string{"t0", "t1", "t10", "t11", "t2", "t3", "t4", "t5", "t6", "t7", "t8", "t9"}) {
		t.Error(got)
	}
	if got := catalog.Names(nil, 5); len(got) != 0 {
		t.Error(got)
	}
}

func TestTimes(t *testing.T) {
	for name, want := range map[string][]int{"pair": {10, 20, 20, 30}, "one": {10, 30}, "many": {20, 40}, "late": {50}, "none": nil, "": nil, "Pair": nil} {
		if got := catalog.Times(sample(), name); !slices.Equal(got, want) {
			t.Error(name, got)
		}
	}
	if got := catalog.Times(nil, "pair"); len(got) != 0 {
		t.Error(got)
	}
}

func TestReferencing(t *testing.T) {
	for _, c := range []struct {
		at   int
		name string
		want []string
	}{
		{math.MaxInt, "one", []string{"late", "many"}}, {50, "one", []string{"late", "many"}}, {49, "one", []string{"many"}}, {20, "one", []string{"many"}}, {19, "one", nil}, {-1, "one", nil}, {math.MinInt, "one", nil},
		{20, "pair", []string{"many"}}, {99, "pair", []string{"many"}}, {10, "pair", nil}, {20, "many", []string{"many"}}, {99, "many", []string{"many"}}, {19, "many", nil},
		{99, "late", nil}, {99, "none", nil}, {99, "", nil}, {99, "ONE", nil},
	} {
		if got := catalog.Referencing(sample(), c.at, c.name); !slices.Equal(got, c.want) {
			t.Error(c.at, c.name, got)
		}
	}
	if got := catalog.Referencing(nil, 99, "one"); len(got) != 0 {
		t.Error(got)
	}
}

func TestConvert(t *testing.T) {
	null := api.Value{}
	full := []api.Value{number(1), word("x"), number(7), {Kind: api.KindBool, Int: 1}}
	for _, c := range []struct {
		name     string
		from, to int
		row      []api.Value
		want     string
		err      api.Errno
	}{
		{"pair", 0, 0, full, "(1, 'x', 7, TRUE)", api.OK}, {"pair", 0, 1, full, "(1, 'x', 7, TRUE, 7)", api.OK}, {"pair", 0, 2, full, "(1, 'x', '7', TRUE, 7)", api.OK}, {"pair", 0, 3, full, "(1, 'x', '7', 7)", api.OK},
		{"pair", 3, 0, []api.Value{number(1), word("x"), word("07"), null}, "(1, 'x', NULL, NULL)", api.OK}, {"pair", 3, 2, []api.Value{number(1), word("x"), word("07"), null}, "(1, 'x', '07', NULL, NULL)", api.OK},
		{"one", 0, 1, []api.Value{number(1), null}, "(1, NULL)", api.OK}, {"one", 1, 0, []api.Value{null, null}, "(NULL, NULL)", api.OK}, {"late", 0, 0, []api.Value{null, number(9)}, "(NULL, 9)", api.OK},
		{"none", 0, 0, full, "", api.ErrNotFound}, {"none", -1, 9, nil, "", api.ErrNotFound}, {"", 0, 0, full, "", api.ErrNotFound},
		{"pair", -1, 0, full, "", api.ErrRange}, {"pair", 0, -1, full, "", api.ErrRange}, {"pair", 0, 4, full, "", api.ErrRange}, {"pair", 4, 0, full, "", api.ErrRange}, {"pair", 4, 4, nil, "", api.ErrRange}, {"pair", math.MinInt, math.MaxInt, full, "", api.ErrRange}, {"late", 0, 1, nil, "", api.ErrRange},
		{"pair", 0, 0, nil, "", api.ErrInvalid}, {"pair", 0, 3, full[:3], "", api.ErrInvalid}, {"pair", 1, 0, full, "", api.ErrInvalid}, {"pair", 2, 0, append(full[:4:4], number(1)), "", api.ErrInvalid}, {"one", 0, 1, []api.Value{number(1), word("x")}, "", api.ErrInvalid}, {"one", 0, 1, []api.Value{number(1), {Kind: 9}}, "", api.ErrInvalid},
	} {
		got, err := catalog.Convert(sample(), c.name, c.from, c.to, c.row)
		if err != c.err || err != api.OK && len(got) != 0 || err == api.OK && tuple.Text(got) != c.want {
			t.Error(c, got, err)
		}
	}
	if got, err := catalog.Convert(nil, "pair", 0, 0, full); len(got) != 0 || err != api.ErrNotFound {
		t.Error(got, err)
	}
	for i := range 66 {
		want, wantErr := []api.Value{number(1), null}, api.OK
		if i == 65 {
			want, wantErr = nil, api.ErrRange
		}
		if got, err := catalog.Convert(renamed(64), "t", 0, i, []api.Value{number(1), null}); err != wantErr || !slices.Equal(got, want) {
			t.Error(i, got, err)
		}
	}
}

// TestRandomQueries compares what is read from random catalogs with the definitions.
func TestRandomQueries(t *testing.T) {
	next := random(2)
	for range 1500 {
		c := randomCatalog(nil, next(50), next)
		for at := -1; at < 60; at += 1 + next(9) {
			if got := catalog.Names(c, at); !slices.Equal(got, existing(c, at)) {
				t.Fatal(c, at, got)
			}
			name := "t" + strconv.Itoa(next(24))
			want, wantN, ok := asOf(c, at, name)
			if got, n, err := catalog.AsOf(c, at, name); n != wantN || (err == api.OK) != ok || !ok && err != api.ErrNotFound || !schema.Same(got, want) || ok && schema.Check(got) != api.OK {
				t.Fatal(c, at, name, got, n, err)
			}
			if got := catalog.Referencing(c, at, name); !slices.Equal(got, referencing(c, at, name)) {
				t.Fatal(c, at, name, got)
			}
			var times []int
			for _, e := range entriesOf(c, math.MaxInt, name) {
				times = append(times, e.Time)
			}
			if got := catalog.Times(c, name); !slices.Equal(got, times) {
				t.Fatal(c, name, got)
			}
		}
	}
}

func TestRandomConversions(t *testing.T) {
	next := random(3)
	counts := map[api.Errno]int{}
	for range 3000 {
		c := randomCatalog(nil, next(50), next)
		name := "t" + strconv.Itoa(next(24))
		if l := existing(c, 99); len(l) > 0 && next(9) > 0 {
			name = l[next(len(l))]
		}
		l := entriesOf(c, math.MaxInt, name)
		from, to := next(len(l)+2)-1, next(len(l)+2)-1
		kinds := []int{1, 2}
		var want []api.Value
		wantErr := api.ErrNotFound
		var row []api.Value
		if len(l) > 0 {
			wantErr = api.ErrRange
		}
		if from >= 0 && from < len(l) {
			u, _, _ := asOf(l[:from+1], math.MaxInt, name)
			kinds = schema.Kinds(u)
		}
		for _, k := range kinds {
			row = append(row, []api.Value{{}, number(next(99)), word("7"), {Kind: api.KindBool, Int: 1}}[k])
		}
		row = row[:max(1, len(row)-next(9)/8)]
		if len(l) > 0 && min(from, to) >= 0 && max(from, to) < len(l) {
			var changes []api.Change
			for _, e := range l[1:] {
				changes = append(changes, e.Change)
			}
			want, wantErr = mapping.Convert(l[0].Create, changes, from, to, row), api.OK
			if len(want) == 0 {
				wantErr = api.ErrInvalid
			}
		}
		counts[wantErr]++
		if got, err := catalog.Convert(c, name, from, to, row); err != wantErr || !slices.Equal(got, want) {
			t.Fatal(c, name, from, to, row, got, err)
		}
	}
	for _, err := range []api.Errno{api.OK, api.ErrNotFound, api.ErrRange, api.ErrInvalid} {
		if counts[err] < 50 {
			t.Error("only", counts[err], "conversions with the error", err)
		}
	}
}

// TestGrowth builds random catalogs by Create and Alter, which must stay valid and leave the past as it was.
func TestGrowth(t *testing.T) {
	next := random(4)
	created, altered, failed := 0, 0, 0
	for range 300 {
		var c []api.Entry
		for range next(50) {
			e := randomEntry(c, next)
			var got []api.Entry
			var err api.Errno
			if e.Change == (api.Change{}) {
				e.Table = e.Create.Name
				got, err = catalog.Create(c, e.Time, e.Create)
			} else {
				e.Create = api.Table{}
				got, err = catalog.Alter(c, e.Time, e.Table, e.Change)
			}
			if want := checkEntry(c, e); err != want {
				t.Fatal(c, e, err, want)
			}
			if err != api.OK {
				if failed++; len(got) != 0 {
					t.Fatal(c, e, got)
				}
				continue
			}
			if !sameEntries(got, after(c, e)) || catalog.Check(got) != api.OK {
				t.Fatal(c, e, got)
			}
			comparePast(t, c, got, e.Time-1-next(5), e.Table)
			if e.Change == (api.Change{}) {
				created++
			} else {
				altered++
			}
			c = got
		}
	}
	if created < 500 || altered < 500 || failed < 500 {
		t.Error("only", created, altered, failed)
	}
}

// comparePast demands that two catalogs say the same about a system time.
func comparePast(t *testing.T, a, b []api.Entry, at int, name string) {
	t.Helper()
	u, n, err := catalog.AsOf(a, at, name)
	v, m, err2 := catalog.AsOf(b, at, name)
	if !schema.Same(u, v) || n != m || err != err2 || !slices.Equal(catalog.Names(a, at), catalog.Names(b, at)) || !slices.Equal(catalog.Referencing(a, at, name), catalog.Referencing(b, at, name)) {
		t.Fatal(a, b, at, name)
	}
}

// wipe changes everything in the memory of a catalog.
func wipe(c []api.Entry) {
	for i := range c {
		wipeTable(c[i].Create)
		c[i] = api.Entry{Time: 77, Table: "other"}
	}
}

func wipeTable(t api.Table) {
	for i := range t.Columns {
		t.Columns[i] = api.Column{Name: "other", Kind: 77}
	}
	for i := range t.Key {
		t.Key[i] = 77
	}
	for i := range t.Foreigns {
		for k := range t.Foreigns[i].Columns {
			t.Foreigns[i].Columns[k] = 77
		}
		t.Foreigns[i] = foreign("other")
	}
	for i := range t.Checks {
		for k := range t.Checks[i].Args {
			t.Checks[i].Args[k] = api.Expr{Op: 77}
		}
		t.Checks[i] = api.Expr{Op: 77}
	}
}

// checked returns a table with a check and a foreign key.
func checked(name string) api.Table {
	t := small(name, foreign("one", 1))
	t.Checks = []api.Expr{{Op: api.OpIsNull, Args: []api.Expr{{Op: api.OpColumn, Int: 1}}}}
	return t
}

func TestMemory(t *testing.T) {
	c, u := after(sample(), creation(50, checked("more"))), checked("new")
	want := copied(c)
	grow := []func() []api.Entry{
		func() []api.Entry { l, _ := catalog.Create(c, 50, u); return l },
		func() []api.Entry { l, _ := catalog.Alter(c, 50, "one", drop("z")); return l },
	}
	for i, f := range grow {
		first, second := f(), f()
		if len(first) != len(c)+1 {
			t.Fatal(i, first)
		}
		keep := copied(second)
		wipe(first)
		if !sameEntries(c, want) || !schema.Same(u, checked("new")) || !sameEntries(second, keep) {
			t.Error(i, "a result shares memory")
		}
	}
	for _, name := range []string{"pair", "one", "many", "late", "more"} {
		for _, at := range []int{20, 50} {
			first, _, _ := catalog.AsOf(c, at, name)
			wipeTable(first)
			if !sameEntries(c, want) {
				t.Error(at, name, "a definition shares memory with the catalog")
			}
		}
	}
}

// TestSharedDefinitions adds to a catalog in which two definitions share memory, which those of the result must not.
func TestSharedDefinitions(t *testing.T) {
	u, v := small("one"), small("two")
	v.Columns, v.Key = u.Columns, u.Key
	c := []api.Entry{creation(10, u), creation(10, v)}
	got, err := catalog.Alter(c, 20, "two", drop("b"))
	if err != api.OK {
		t.Fatal(err)
	}
	wipeTable(got[0].Create)
	if !schema.Same(got[1].Create, small("two")) {
		t.Error("two definitions of a result share memory")
	}
}

func TestArgumentsStay(t *testing.T) {
	c := append(sample(), creation(77, small("spare")), creation(78, small("spare")))
	want := copied(c)
	n := len(sample())
	row := []api.Value{number(1), word("x"), number(7), {}, word("spare")}
	if _, err := catalog.Create(c[:n], 50, small("x")); err != api.OK {
		t.Error(err)
	}
	if _, err := catalog.Alter(c[:n], 50, "one", drop("z")); err != api.OK {
		t.Error(err)
	}
	if _, err := catalog.Convert(c[:n], "pair", 0, 3, row[:4]); err != api.OK {
		t.Error(err)
	}
	catalog.Check(c[:n])
	catalog.AsOf(c[:n], 50, "pair")
	catalog.Names(c[:n], 50)
	catalog.Referencing(c[:n], 50, "one")
	catalog.Times(c[:n], "one")
	if !sameEntries(c, want) || !slices.Equal(row, []api.Value{number(1), word("x"), number(7), {}, word("spare")}) {
		t.Error("an argument was changed")
	}
}

// TestInvalidCatalogs calls all functions on catalogs that are not valid, which must return.
func TestInvalidCatalogs(t *testing.T) {
	next := random(5)
	invalid := [][]api.Entry{{{}}, {{}, {}}, {change(5, "t", drop("b"))}, {change(5, "t", drop("b")), creation(5, small("t"))}, {creation(5, small("t")), creation(5, small("t"))}, {creation(5, table("T"))}}
	for range 500 {
		var c []api.Entry
		for range next(10) {
			c = append(c, api.Entry{})
			if next(3) > 0 {
				e := randomEntry(nil, next)
				damage(&e, next)
				c[len(c)-1] = e
			}
		}
		invalid = append(invalid, c)
	}
	for _, c := range invalid {
		for _, name := range []string{"", "t", "t1", "t3", "t5", "T"} {
			catalog.Check(c)
			catalog.Create(c, 5, small(name, foreign("t3", 0)))
			catalog.Alter(c, 5, name, drop("b"))
			catalog.AsOf(c, 5, name)
			catalog.Names(c, 5)
			catalog.Times(c, name)
			catalog.Convert(c, name, 0, 1, []api.Value{{}, {}})
			catalog.Referencing(c, 5, name)
		}
	}
}
