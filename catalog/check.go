package catalog

import (
	"bitemporal/api"
	"bitemporal/evolve"
	"bitemporal/schema"
)

// version is a version of a table: its definition and its number.
type version struct {
	table  api.Table
	number int
}

// past is what a valid catalog says about the entry that follows it: the time of its last entry, the number of its
// tables, and the newest version of each.
type past struct {
	time   int
	tables int
	newest func(name string) (version, bool)
}

// pastOf returns the past of an entry that follows a valid catalog.
func pastOf(c []api.Entry) past {
	p := past{tables: len(Names(c, api.Forever))}
	if len(c) > 0 {
		p.time = c[len(c)-1].Time
	}
	p.newest = func(name string) (version, bool) {
		t, n, err := AsOf(c, api.Forever, name)
		return version{table: t, number: n}, err == api.OK
	}
	return p
}

// Check reports whether a catalog is valid.
func Check(c []api.Entry) api.Errno {
	// Each entry is checked once, against the newest versions so far: pastOf would apply all changes again.
	tables := map[string]version{}
	p := past{newest: func(name string) (version, bool) {
		v, ok := tables[name]
		return v, ok
	}}
	for _, e := range c {
		v, err := p.after(e)
		if err != api.OK {
			return err
		}
		tables[e.Table] = v
		p.time, p.tables = e.Time, len(tables)
	}
	return api.OK
}

// after returns the version that an entry after the past makes.
func (p past) after(e api.Entry) (version, api.Errno) {
	switch {
	case e.Time < 0 || e.Time >= api.Forever:
		return version{}, api.ErrRange
	case e.Time < p.time:
		return version{}, api.ErrOrder
	case creates(e):
		return version{table: e.Create}, p.checkCreation(e)
	}
	return p.changed(e)
}

// checkCreation returns the first error of an entry that creates a table.
func (p past) checkCreation(e api.Entry) api.Errno {
	if e.Table != e.Create.Name {
		return api.ErrInvalid
	}
	if err := schema.Check(e.Create); err != api.OK {
		return err
	}
	if p.tables >= api.MaxTables {
		return api.ErrTooLong
	}
	if _, ok := p.newest(e.Table); ok {
		return api.ErrExists
	}
	for _, f := range e.Create.Foreigns {
		if err := p.checkForeign(e.Create, f); err != api.OK {
			return err
		}
	}
	return api.OK
}

// checkForeign returns the first error of a foreign key of a valid definition.
func (p past) checkForeign(t api.Table, f api.Foreign) api.Errno {
	target := t
	if f.Table != t.Name {
		v, ok := p.newest(f.Table)
		if !ok {
			return api.ErrNotFound
		}
		target = v.table
	}
	if len(f.Columns) != len(target.Key) {
		return api.ErrColumns
	}
	for i, k := range target.Key {
		if t.Columns[f.Columns[i]].Kind != target.Columns[k].Kind {
			return api.ErrKind
		}
	}
	return api.OK
}

// changed returns the version that an entry which changes a table makes.
func (p past) changed(e api.Entry) (version, api.Errno) {
	if !schema.Same(e.Create, api.Table{}) {
		return version{}, api.ErrInvalid
	}
	v, ok := p.newest(e.Table)
	switch {
	case !ok:
		return version{}, api.ErrNotFound
	case v.number >= api.MaxChanges:
		return version{}, api.ErrTooLong
	}
	t, err := evolve.Apply(v.table, e.Change)
	return version{table: t, number: v.number + 1}, err
}
