package catalog

import (
	"slices"

	"bitemporal/api"
)

// selection is a closure that tells which entries are selected.
type selection func(e api.Entry) bool

// includes reports whether an entry is selected.
func (s selection) includes(e api.Entry) bool { return s(e) }

// upTo returns the selection of the entries of s with a time up to at.
func (s selection) upTo(at int) selection {
	return func(e api.Entry) bool { return e.Time <= at && s(e) }
}

// about returns the selection of the entries for a table. The first one in a valid catalog creates it.
func about(name string) selection {
	return func(e api.Entry) bool { return e.Table == name }
}

// referencing returns the selection of the entries that create a table with a foreign key to a table.
func referencing(name string) selection {
	isReference := func(f api.Foreign) bool { return f.Table == name }
	return func(e api.Entry) bool { return slices.ContainsFunc(e.Create.Foreigns, isReference) }
}

// creates reports whether an entry creates a table.
func creates(e api.Entry) bool { return e.Change == api.Change{} }

// selected returns the entries that are included.
func selected(c []api.Entry, includes func(e api.Entry) bool) []api.Entry {
	var l []api.Entry
	for _, e := range c {
		if includes(e) {
			l = append(l, e)
		}
	}
	return l
}

// changes returns the changes of entries.
func changes(l []api.Entry) []api.Change {
	var changes []api.Change
	for _, e := range l {
		changes = append(changes, e.Change)
	}
	return changes
}

// names returns the names of the tables of entries, ascending.
func names(l []api.Entry) []string {
	var names []string
	for _, e := range l {
		names = append(names, e.Table)
	}
	slices.Sort(names)
	return names
}
