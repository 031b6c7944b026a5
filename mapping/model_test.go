package mapping_test

import (
	"slices"
	"strconv"

	"bitemporal/api"
	"bitemporal/evolve"
	"bitemporal/schema"
	"bitemporal/tuple"
)

// random returns a function that continues a fixed sequence of numbers from 0 to n - 1.
func random(seed uint64) func(n int) int {
	return func(n int) int {
		seed = seed*6364136223846793005 + 1442695040888963407
		return int(seed >> 33 % uint64(n))
	}
}

func number(n int) api.Value  { return api.Value{Kind: api.KindInt, Int: n} }
func word(s string) api.Value { return api.Value{Kind: api.KindText, Text: s} }
func truth(n int) api.Value   { return api.Value{Kind: api.KindBool, Int: n} }

func con(v api.Value) api.Expr         { return api.Expr{Op: api.OpConst, Value: v} }
func col(i int) api.Expr               { return api.Expr{Op: api.OpColumn, Int: i} }
func op(o int, l ...api.Expr) api.Expr { return api.Expr{Op: o, Args: l} }

func drop(name string) api.Change { return api.Change{Kind: api.ChangeDrop, Name: name} }
func text(name string) api.Change { return api.Change{Kind: api.ChangeText, Name: name} }
func rename(name, to string) api.Change {
	return api.Change{Kind: api.ChangeRename, Name: name, To: to}
}
func add(name string, kind int, nullable bool, v api.Value) api.Change {
	return api.Change{Kind: api.ChangeAdd, Column: api.Column{Name: name, Kind: kind, Nullable: nullable}, Default: v}
}

// sample returns a valid table: a, c and d are free, b is in the key, and e in a foreign key and a check.
func sample() api.Table {
	return api.Table{
		Name: "t",
		Columns: []api.Column{
			{Name: "a", Kind: api.KindInt},
			{Name: "b", Kind: api.KindInt},
			{Name: "c", Kind: api.KindBool, Nullable: true},
			{Name: "d", Kind: api.KindText, Nullable: true},
			{Name: "e", Kind: api.KindInt, Nullable: true},
		},
		Key:      []int{1},
		Foreigns: []api.Foreign{{Table: "u", Columns: []int{4, 1}}},
		Checks:   []api.Expr{op(api.OpLt, con(number(1)), col(4))},
	}
}

// history returns changes of the sample: columns a to e, then a text c, no a, a new a, f for d, no c, a text a.
func history() []api.Change {
	return []api.Change{text("c"), drop("a"), add("a", api.KindBool, true, truth(1)), rename("d", "f"), drop("c"), text("a")}
}

// literal is the text of an integer or a boolean, or a null.
func literal(v api.Value) api.Value {
	switch v.Kind {
	case api.KindInt:
		return word(strconv.Itoa(v.Int))
	case api.KindBool:
		return word([]string{"FALSE", "TRUE"}[v.Int])
	}
	return api.Value{}
}

// parsed is the integer or the boolean with this text, or a null.
func parsed(v api.Value, kind int) api.Value {
	n, err := strconv.Atoi(v.Text)
	switch {
	case v.Kind != api.KindText:
		return api.Value{}
	case kind == api.KindBool && v.Text == "TRUE":
		return truth(1)
	case kind == api.KindBool && v.Text == "FALSE":
		return truth(0)
	case kind == api.KindInt && err == nil && strconv.Itoa(n) == v.Text && n >= -api.MaxNumber && n <= api.MaxNumber:
		return number(n)
	}
	return api.Value{}
}

// column is a column with an identity, which it keeps until it is dropped.
type column struct {
	id int
	api.Column
}

// tracked returns the columns of all versions with their identities. The versions must exist.
func tracked(t api.Table, l []api.Change) [][]column {
	next := len(t.Columns)
	var columns []column
	for i, c := range t.Columns {
		columns = append(columns, column{id: i, Column: c})
	}
	versions := [][]column{slices.Clone(columns)}
	for _, c := range l {
		i := slices.IndexFunc(columns, func(x column) bool { return x.Name == c.Name })
		switch c.Kind {
		case api.ChangeAdd:
			columns = append(columns, column{id: next, Column: c.Column})
			next++
		case api.ChangeDrop:
			columns = slices.Delete(columns, i, i+1)
		case api.ChangeRename:
			columns[i].Name = c.To
		case api.ChangeText:
			columns[i].Kind = api.KindText
		}
		versions = append(versions, slices.Clone(columns))
	}
	return versions
}

// place returns the index of an identity, or -1.
func place(l []column, id int) int {
	return slices.IndexFunc(l, func(c column) bool { return c.id == id })
}

// exists reports whether the versions exist and both numbers are those of one.
func exists(t api.Table, l []api.Change, from, to int) bool {
	_, _, err := evolve.Run(t, l)
	return err == api.OK && from >= 0 && from <= len(l) && to >= 0 && to <= len(l)
}

// convert is Convert by identities: each column of the result comes from the version in which the way begins, from the
// default of the change that added it, or from nowhere.
func convert(t api.Table, l []api.Change, from, to int, row []api.Value) []api.Value {
	if !exists(t, l, from, to) {
		return nil
	}
	versions := tracked(t, l)
	var kinds []int
	for _, c := range versions[from] {
		kinds = append(kinds, c.Kind)
	}
	if !tuple.Fits(row, kinds) {
		return nil
	}
	var converted []api.Value
	for _, c := range versions[to] {
		var v api.Value
		kind := c.Kind
		if i := place(versions[from], c.id); i >= 0 {
			v, kind = row[i], kinds[i]
		} else if from < to {
			added := slices.IndexFunc(versions, func(version []column) bool { return place(version, c.id) >= 0 })
			v, kind = l[added-1].Default, l[added-1].Column.Kind
		}
		switch {
		case kind == c.Kind:
		case from < to:
			v = literal(v)
		default:
			v = parsed(v, c.Kind)
		}
		converted = append(converted, v)
	}
	return converted
}

// indexOf is Column by identities.
func indexOf(t api.Table, l []api.Change, from, to, i int) int {
	if !exists(t, l, from, to) {
		return -1
	}
	versions := tracked(t, l)
	if i < 0 || i >= len(versions[from]) {
		return -1
	}
	return place(versions[to], versions[from][i].id)
}

// randomTable returns a valid table.
func randomTable(next func(int) int) api.Table {
	t := api.Table{Name: "t"}
	n := 1 + next(8)
	for i := range n {
		t.Columns = append(t.Columns, api.Column{Name: "c" + strconv.Itoa(i), Kind: 1 + next(3), Nullable: next(2) == 0})
	}
	i := next(n)
	t.Columns[i].Nullable = false
	t.Key = []int{i}
	if next(4) == 0 {
		t.Foreigns = []api.Foreign{{Table: "u", Columns: []int{next(n)}}}
	}
	if next(4) == 0 {
		t.Checks = []api.Expr{op(api.OpIsNull, col(next(n)))}
	}
	return t
}

// randomChange returns a change that can often be applied to a valid table.
func randomChange(t api.Table, next func(int) int) api.Change {
	name := t.Columns[next(len(t.Columns))].Name
	switch next(4) {
	case 0:
		kind := 1 + next(3)
		v := []api.Value{{}, number(next(20) - 10), word(randomText(next)), truth(next(2))}[kind]
		if next(6) == 0 {
			return add("n"+strconv.Itoa(next(20)), kind, true, api.Value{})
		}
		return add("n"+strconv.Itoa(next(20)), kind, next(2) == 0, v)
	case 1:
		return drop(name)
	case 2:
		return rename(name, "n"+strconv.Itoa(next(20)))
	}
	return text(name)
}

// randomChanges returns changes that can be applied in order.
func randomChanges(t api.Table, next func(int) int) []api.Change {
	var l []api.Change
	for range next(16) {
		c := randomChange(t, next)
		if changed, err := evolve.Apply(t, c); err == api.OK {
			t, l = changed, append(l, c)
		}
	}
	return l
}

// randomText returns a text, which is often the literal of a value or similar to one.
func randomText(next func(int) int) string {
	l := []string{"", "x", "TRUE", "FALSE", "NULL", "true", "0", "-0", "7", "-7", "07", "+7", " 7", "7 ", "'7'", "''", "1125899906842624", "1125899906842625", "-1125899906842624", "-1125899906842625", "99999999999999999999"}
	if i := next(2 * len(l)); i < len(l) {
		return l[i]
	}
	return strconv.Itoa(next(2000) - 1000)
}

// randomRow returns a row that often fits the columns of a table.
func randomRow(t api.Table, next func(int) int) []api.Value {
	var row []api.Value
	for _, c := range t.Columns {
		v := []api.Value{{}, number(next(200) - 100), word(randomText(next)), truth(next(2))}[c.Kind]
		if next(8) == 0 {
			v = api.Value{}
		}
		row = append(row, v)
	}
	switch next(60) {
	case 0:
		row[next(len(row))] = []api.Value{number(3), word("a"), truth(0), {Kind: 4}, {Int: 1}, truth(2), word("\n"), number(api.MaxNumber + 1)}[next(8)]
	case 1:
		row = append(row, api.Value{})
	case 2:
		row = row[:len(row)-1]
	}
	return row
}

// filled returns a row without nulls that fits a definition.
func filled(t api.Table) []api.Value {
	var row []api.Value
	for i, c := range t.Columns {
		row = append(row, []api.Value{{}, number(i), word("x"), truth(1)}[c.Kind])
	}
	return row
}

// version returns the definition after the first n changes, which can be applied.
func version(t api.Table, l []api.Change, n int) api.Table {
	t, _, _ = evolve.Run(t, l[:n])
	return t
}

func fits(t api.Table, row []api.Value) bool { return tuple.Fits(row, schema.Kinds(t)) }
