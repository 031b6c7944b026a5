package evolve_test

import (
	"slices"
	"strconv"

	"bitemporal/api"
	"bitemporal/schema"
	"bitemporal/value"
)

// random returns a function that continues a fixed sequence of numbers from 0 to n - 1.
func random(seed uint64) func(n int) int {
	return func(n int) int {
		seed = seed*6364136223846793005 + 1442695040888963407
		return int(seed >> 33 % uint64(n))
	}
}

func number(n int) api.Value  { return api.Value{Kind: api.KindInt, Int: n} }
func word(s string) api.Value { return api.Value{Kind: api.KindText, Text: s} }
func truth(n int) api.Value   { return api.Value{Kind: api.KindBool, Int: n} }

func con(v api.Value) api.Expr         { return api.Expr{Op: api.OpConst, Value: v} }
func col(i int) api.Expr               { return api.Expr{Op: api.OpColumn, Int: i} }
func op(o int, l ...api.Expr) api.Expr { return api.Expr{Op: o, Args: l} }

func drop(name string) api.Change { return api.Change{Kind: api.ChangeDrop, Name: name} }
func text(name string) api.Change { return api.Change{Kind: api.ChangeText, Name: name} }
func rename(name, to string) api.Change {
	return api.Change{Kind: api.ChangeRename, Name: name, To: to}
}
func add(name string, kind int, nullable bool, v api.Value) api.Change {
	return api.Change{Kind: api.ChangeAdd, Column: api.Column{Name: name, Kind: kind, Nullable: nullable}, Default: v}
}

// sample returns a valid table: a to c are free, d is in the key, e in a foreign key, f in a check, g is free.
func sample() api.Table {
	return api.Table{
		Name: "t",
		Columns: []api.Column{
			{Name: "a", Kind: api.KindInt},
			{Name: "b", Kind: api.KindText, Nullable: true},
			{Name: "c", Kind: api.KindBool, Nullable: true},
			{Name: "d", Kind: api.KindInt},
			{Name: "e", Kind: api.KindBool},
			{Name: "f", Kind: api.KindInt, Nullable: true},
			{Name: "g", Kind: api.KindInt},
		},
		Key:      []int{3},
		Foreigns: []api.Foreign{{Table: "u", Columns: []int{4, 3}}},
		Checks:   []api.Expr{op(api.OpOr, op(api.OpIsNull, col(5)), op(api.OpLt, con(number(1)), col(5)))},
	}
}

// wide returns a table with so many columns, of which the first one is the key.
func wide(n int) api.Table {
	t := api.Table{Name: "t", Key: []int{0}}
	for i := range n {
		t.Columns = append(t.Columns, api.Column{Name: "c" + strconv.Itoa(i), Kind: api.KindInt})
	}
	return t
}

// occurs reports whether an expression contains a column.
func occurs(e api.Expr, column int) bool {
	return e.Op == api.OpColumn && e.Int == column || slices.ContainsFunc(e.Args, func(a api.Expr) bool { return occurs(a, column) })
}

// isUsed is the definition of a used column.
func isUsed(t api.Table, column int) bool {
	inForeign := func(f api.Foreign) bool { return slices.Contains(f.Columns, column) }
	inCheck := func(e api.Expr) bool { return occurs(e, column) }
	return slices.Contains(t.Key, column) || slices.ContainsFunc(t.Foreigns, inForeign) || slices.ContainsFunc(t.Checks, inCheck)
}

// check is the definition of Check: the first of its errors.
func check(t api.Table, c api.Change) api.Errno {
	first := schema.Check(t)
	demand := func(holds bool, err api.Errno) {
		if first == api.OK && !holds {
			first = err
		}
	}
	isColumn := func(name string) bool { return schema.Find(t, name) >= 0 }
	demand(slices.Contains([]int{api.ChangeAdd, api.ChangeDrop, api.ChangeRename, api.ChangeText}, c.Kind), api.ErrKind)
	if c.Kind == api.ChangeAdd {
		demand(c.Name == "" && c.To == "", api.ErrInvalid)
		demand(len(t.Columns) < 12, api.ErrColumns)
		demand(schema.Name(c.Column.Name), api.ErrSyntax)
		demand(slices.Contains([]int{api.KindInt, api.KindText, api.KindBool}, c.Column.Kind), api.ErrKind)
		demand(!isColumn(c.Column.Name), api.ErrExists)
		demand(value.Valid(c.Default), api.ErrInvalid)
		demand(c.Default.Kind != api.KindNull || c.Column.Nullable, api.ErrNull)
		demand(c.Default.Kind == api.KindNull || c.Default.Kind == c.Column.Kind, api.ErrKind)
		return first
	}
	demand(c.To == "" || c.Kind == api.ChangeRename, api.ErrInvalid)
	demand(c.Column == api.Column{} && c.Default == api.Value{}, api.ErrInvalid)
	demand(isColumn(c.Name), api.ErrNotFound)
	if c.Kind == api.ChangeRename {
		demand(schema.Name(c.To), api.ErrSyntax)
		demand(!isColumn(c.To), api.ErrExists)
		return first
	}
	i := schema.Find(t, c.Name)
	demand(!isUsed(t, i), api.ErrSchema)
	if c.Kind == api.ChangeText && i >= 0 {
		demand(t.Columns[i].Kind != api.KindText, api.ErrKind)
	}
	return first
}

// kept returns the columns of t, by their indices, that exist after a change that can be applied, in order.
func kept(t api.Table, c api.Change) []int {
	var l []int
	for i := range t.Columns {
		if c.Kind != api.ChangeDrop || t.Columns[i].Name != c.Name {
			l = append(l, i)
		}
	}
	return l
}

// apply is the definition of Apply for a change that can be applied: the list of the old columns that remain tells the new indices.
func apply(t api.Table, c api.Change) api.Table {
	l := kept(t, c)
	u := api.Table{Name: t.Name}
	for _, i := range l {
		column := t.Columns[i]
		if column.Name == c.Name && c.Kind == api.ChangeRename {
			column.Name = c.To
		}
		if column.Name == c.Name && c.Kind == api.ChangeText {
			column.Kind = api.KindText
		}
		u.Columns = append(u.Columns, column)
	}
	if c.Kind == api.ChangeAdd {
		u.Columns = append(u.Columns, c.Column)
	}
	u.Key = indices(l, t.Key)
	for _, f := range t.Foreigns {
		u.Foreigns = append(u.Foreigns, api.Foreign{Table: f.Table, Columns: indices(l, f.Columns)})
	}
	for _, e := range t.Checks {
		u.Checks = append(u.Checks, renumber(l, e))
	}
	return u
}

// indices returns the places of columns in the list l.
func indices(l, columns []int) []int {
	var places []int
	for _, i := range columns {
		places = append(places, slices.Index(l, i))
	}
	return places
}

// renumber returns an expression over the columns at their places in the list l.
func renumber(l []int, e api.Expr) api.Expr {
	if e.Op == api.OpColumn {
		e.Int = slices.Index(l, e.Int)
	}
	var args []api.Expr
	for _, a := range e.Args {
		args = append(args, renumber(l, a))
	}
	e.Args = args
	return e
}

// randomTable returns a valid table.
func randomTable(next func(int) int) api.Table {
	t := api.Table{Name: "t", Columns: wide(1 + next(12)).Columns}
	n := len(t.Columns)
	for i := range t.Columns {
		t.Columns[i].Kind = 1 + next(3)
		t.Columns[i].Nullable = next(2) == 0
	}
	i := next(n)
	t.Columns[i].Nullable = false
	t.Key = []int{i}
	for range next(3) {
		t.Foreigns = append(t.Foreigns, api.Foreign{Table: "u", Columns: slices.Compact([]int{next(n), next(n)})})
	}
	for range next(3) {
		k := next(n)
		t.Checks = append(t.Checks, op(api.OpOr, op(api.OpIsNull, col(next(n))), op(api.OpEq, col(k), col(k))))
	}
	return t
}

// randomChange returns a change that can often be applied to a valid table.
func randomChange(t api.Table, next func(int) int) api.Change {
	name := func() string {
		if next(12) == 0 {
			return []string{"", "z", "X", "by", "c0", "ab"}[next(6)]
		}
		return t.Columns[next(len(t.Columns))].Name
	}
	fresh := func() string {
		if next(10) == 0 {
			return name()
		}
		return "n" + strconv.Itoa(next(1000))
	}
	var c api.Change
	switch next(4) {
	case 0:
		kind := 1 + next(3)
		c = add(fresh(), kind, next(2) == 0, []api.Value{{}, number(7), word("x"), truth(1)}[kind*min(1, next(8))])
	case 1:
		c = drop(name())
	case 2:
		c = rename(name(), fresh())
	case 3:
		c = text(name())
	}
	if next(8) == 0 {
		damage(&c, next)
	}
	return c
}

// damage changes a field of a change, which may make it invalid.
func damage(c *api.Change, next func(int) int) {
	switch next(7) {
	case 0:
		c.Kind = next(7) - 1
	case 1:
		c.Name = []string{"", "c1", "z"}[next(3)]
	case 2:
		c.To = []string{"", "c1", "zz"}[next(3)]
	case 3:
		c.Column.Name = []string{"", "c1", "zz"}[next(3)]
	case 4:
		c.Column.Kind = next(6) - 1
	case 5:
		c.Column.Nullable = !c.Column.Nullable
	case 6:
		c.Default = []api.Value{{}, number(1), word("\n"), truth(2), {Int: 1}}[next(5)]
	}
}
