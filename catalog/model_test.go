package catalog_test

import (
	"slices"
	"strconv"

	"bitemporal/api"
	"bitemporal/evolve"
	"bitemporal/schema"
)

// random returns a function that continues a fixed sequence of numbers from 0 to n - 1.
func random(seed uint64) func(n int) int {
	return func(n int) int {
		seed = seed*6364136223846793005 + 1442695040888963407
		return int(seed >> 33 % uint64(n))
	}
}

func number(n int) api.Value  { return api.Value{Kind: api.KindInt, Int: n} }
func word(s string) api.Value { return api.Value{Kind: api.KindText, Text: s} }

func drop(name string) api.Change { return api.Change{Kind: api.ChangeDrop, Name: name} }
func text(name string) api.Change { return api.Change{Kind: api.ChangeText, Name: name} }
func rename(name, to string) api.Change {
	return api.Change{Kind: api.ChangeRename, Name: name, To: to}
}
func add(name string) api.Change {
	return api.Change{Kind: api.ChangeAdd, Column: api.Column{Name: name, Kind: api.KindInt}, Default: number(7)}
}

// table returns a definition with the key a (an integer) and b (a text), and the free columns c (an integer) and d (a
// boolean).
func table(name string, l ...api.Foreign) api.Table {
	return api.Table{
		Name: name,
		Columns: []api.Column{
			{Name: "a", Kind: api.KindInt},
			{Name: "b", Kind: api.KindText},
			{Name: "c", Kind: api.KindInt, Nullable: true},
			{Name: "d", Kind: api.KindBool, Nullable: true},
		},
		Key:      []int{0, 1},
		Foreigns: l,
	}
}

// small returns a definition with the integer columns a (the key) and b.
func small(name string, l ...api.Foreign) api.Table {
	return api.Table{Name: name, Columns: []api.Column{{Name: "a", Kind: api.KindInt}, {Name: "b", Kind: api.KindInt, Nullable: true}}, Key: []int{0}, Foreigns: l}
}

func foreign(table string, columns ...int) api.Foreign {
	return api.Foreign{Table: table, Columns: columns}
}

func creation(at int, t api.Table) api.Entry { return api.Entry{Time: at, Table: t.Name, Create: t} }
func change(at int, name string, c api.Change) api.Entry {
	return api.Entry{Time: at, Table: name, Change: c}
}

// entriesOf returns the entries for a table with a time up to at.
func entriesOf(c []api.Entry, at int, name string) []api.Entry {
	var l []api.Entry
	for _, e := range c {
		if e.Table == name && e.Time <= at {
			l = append(l, e)
		}
	}
	return l
}

// asOf is the definition of AsOf; false if the table does not exist.
func asOf(c []api.Entry, at int, name string) (api.Table, int, bool) {
	l := entriesOf(c, at, name)
	if len(l) == 0 {
		return api.Table{}, 0, false
	}
	t := l[0].Create
	for _, e := range l[1:] {
		t, _ = evolve.Apply(t, e.Change)
	}
	return t, len(l) - 1, true
}

// existing returns the names of the tables that exist at a system time, ascending.
func existing(c []api.Entry, at int) []string {
	names := map[string]bool{}
	for _, e := range c {
		if e.Time <= at {
			names[e.Table] = true
		}
	}
	var l []string
	for name := range names {
		l = append(l, name)
	}
	slices.Sort(l)
	return l
}

// referencing is the definition of Referencing.
func referencing(c []api.Entry, at int, name string) []string {
	var l []string
	for _, n := range existing(c, at) {
		t, _, _ := asOf(c, at, n)
		if slices.ContainsFunc(t.Foreigns, func(f api.Foreign) bool { return f.Table == name }) {
			l = append(l, n)
		}
	}
	return l
}

// check is the definition of Check.
func check(c []api.Entry) api.Errno {
	for i, e := range c {
		if err := checkEntry(c[:i], e); err != api.OK {
			return err
		}
	}
	return api.OK
}

// checkEntry returns the first error of an entry after a valid catalog.
func checkEntry(c []api.Entry, e api.Entry) api.Errno {
	first := api.OK
	demand := func(holds bool, err api.Errno) {
		if first == api.OK && !holds {
			first = err
		}
	}
	demand(e.Time >= 0 && e.Time <= api.Forever-1, api.ErrRange)
	demand(len(c) == 0 || e.Time >= c[len(c)-1].Time, api.ErrOrder)
	newest, n, ok := asOf(c, api.Forever, e.Table)
	if e.Change != (api.Change{}) {
		demand(schema.Same(e.Create, api.Table{}), api.ErrInvalid)
		demand(ok, api.ErrNotFound)
		demand(n < 64, api.ErrTooLong)
		demand(first == api.OK && evolve.Check(newest, e.Change) == api.OK, evolve.Check(newest, e.Change))
		return first
	}
	demand(e.Table == e.Create.Name, api.ErrInvalid)
	demand(schema.Check(e.Create) == api.OK, schema.Check(e.Create))
	demand(len(existing(c, api.Forever)) < 16, api.ErrTooLong)
	demand(!ok, api.ErrExists)
	for _, f := range e.Create.Foreigns {
		target, _, ok := asOf(c, api.Forever, f.Table)
		if f.Table == e.Table {
			target, ok = e.Create, true
		}
		demand(ok, api.ErrNotFound)
		demand(len(f.Columns) == len(target.Key), api.ErrColumns)
		for i := range min(len(f.Columns), len(target.Key)) {
			demand(first == api.OK && e.Create.Columns[f.Columns[i]].Kind == target.Columns[target.Key[i]].Kind, api.ErrKind)
		}
	}
	return first
}

// sameEntries reports whether two catalogs are equal.
func sameEntries(a, b []api.Entry) bool {
	return slices.EqualFunc(a, b, func(x, y api.Entry) bool {
		return x.Time == y.Time && x.Table == y.Table && x.Change == y.Change && schema.Same(x.Create, y.Create)
	})
}

// copied returns a catalog in memory of its own.
func copied(c []api.Entry) []api.Entry {
	l := slices.Clone(c)
	for i := range l {
		l[i].Create = schema.Clone(l[i].Create)
	}
	return l
}

// randomTable returns a definition, which is seldom invalid, with random keys and foreign keys to tables that often exist.
func randomTable(c []api.Entry, next func(int) int) api.Table {
	t := api.Table{Name: "t" + strconv.Itoa(next(24))}
	n := 1 + next(4)
	for i := range n {
		t.Columns = append(t.Columns, api.Column{Name: "c" + strconv.Itoa(i), Kind: 1 + min(2, next(6))/2})
	}
	t.Key = []int{next(n)}
	if i := next(n); i > t.Key[0] {
		t.Key = append(t.Key, i)
	}
	for range max(0, next(5)-2) {
		name := "t" + strconv.Itoa(next(24))
		if l := existing(c, api.Forever); len(l) > 0 && next(8) > 0 {
			name = l[next(len(l))]
		}
		if next(4) == 0 {
			name = t.Name
		}
		columns := []int{next(n)}
		if i := next(n); i != columns[0] && next(3) > 0 {
			columns = append(columns, i)
		}
		t.Foreigns = append(t.Foreigns, foreign(name, columns...))
	}
	if next(25) == 0 {
		t.Columns[0].Kind = next(5)
	}
	return t
}

// randomChange returns a change that can often be applied to a table.
func randomChange(t api.Table, next func(int) int) api.Change {
	name := "c" + strconv.Itoa(next(6))
	if len(t.Columns) > 0 {
		name = t.Columns[next(len(t.Columns))].Name
	}
	fresh := "n" + strconv.Itoa(next(40))
	return []api.Change{add(fresh), add(fresh), drop(name), rename(name, fresh), rename(name, fresh), text(name), {Kind: 5}}[next(7)]
}

// randomEntry returns an entry that can often follow a catalog.
func randomEntry(c []api.Entry, next func(int) int) api.Entry {
	at := 0
	if len(c) > 0 {
		at = c[len(c)-1].Time
	}
	at += next(3)
	names := existing(c, api.Forever)
	var e api.Entry
	if len(names) == 0 || next(3) == 0 {
		e = creation(at, randomTable(c, next))
	} else {
		name := names[next(len(names))]
		t, _, _ := asOf(c, api.Forever, name)
		e = change(at, name, randomChange(t, next))
	}
	if next(10) == 0 {
		damage(&e, next)
	}
	return e
}

// damage changes a field of an entry, which may make it invalid.
func damage(e *api.Entry, next func(int) int) {
	switch next(5) {
	case 0:
		e.Time = []int{-1, 0, e.Time - 1, api.Forever, api.Forever + 1}[next(5)]
	case 1:
		e.Table = "t" + strconv.Itoa(next(24))
	case 2:
		e.Create.Name = []string{"", "T", "t3"}[next(3)]
	case 3:
		e.Change = api.Change{Kind: next(2) * 9, Name: []string{"", "a"}[next(2)]}
	case 4:
		e.Create = small("t5")
	}
}

// randomCatalog returns a valid catalog, which is a valid one with up to n more entries.
func randomCatalog(c []api.Entry, n int, next func(int) int) []api.Entry {
	for range n {
		if e := randomEntry(c, next); checkEntry(c, e) == api.OK {
			c = append(c, e)
		}
	}
	return c
}
