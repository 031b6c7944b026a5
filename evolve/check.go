package evolve

import (
	"slices"

	"bitemporal/api"
	"bitemporal/expr"
	"bitemporal/schema"
)

// Check reports whether a change can be applied to a definition.
func Check(t api.Table, c api.Change) api.Errno {
	if err := schema.Check(t); err != api.OK {
		return err
	}
	return checkChange(t, c)
}

// checkChange returns the first error of a change of a valid definition.
func checkChange(t api.Table, c api.Change) api.Errno {
	if c.Kind < api.ChangeAdd || c.Kind > api.ChangeText {
		return api.ErrKind
	}
	if c != usedFields(c) {
		return api.ErrInvalid
	}
	if c.Kind == api.ChangeAdd {
		return checkAdd(t, c)
	}
	i := find(t, c.Name)
	if i < 0 {
		return api.ErrNotFound
	}
	switch {
	case c.Kind == api.ChangeRename:
		return checkRename(t, c)
	case used(t)[i]:
		return api.ErrSchema
	case c.Kind == api.ChangeText && t.Columns[i].Kind == api.KindText:
		return api.ErrKind
	}
	return api.OK
}

// usedFields returns c with only the fields that its kind uses.
func usedFields(c api.Change) api.Change {
	switch c.Kind {
	case api.ChangeAdd:
		return api.Change{Kind: c.Kind, Column: c.Column, Default: c.Default}
	case api.ChangeRename:
		return api.Change{Kind: c.Kind, Name: c.Name, To: c.To}
	}
	return api.Change{Kind: c.Kind, Name: c.Name}
}

func checkAdd(t api.Table, c api.Change) api.Errno {
	switch {
	case len(t.Columns) >= api.MaxColumns:
		return api.ErrColumns
	case !schema.Name(c.Column.Name):
		return api.ErrSyntax
	case c.Column.Kind < api.KindInt || c.Column.Kind > api.KindBool:
		return api.ErrKind
	case find(t, c.Column.Name) >= 0:
		return api.ErrExists
	}
	added := api.Table{Columns: []api.Column{c.Column}}
	return schema.Accepts(added, []api.Value{c.Default})
}

func checkRename(t api.Table, c api.Change) api.Errno {
	switch {
	case !schema.Name(c.To):
		return api.ErrSyntax
	case find(t, c.To) >= 0:
		return api.ErrExists
	}
	return api.OK
}

// find returns the index of a column of a valid definition, or -1.
func find(t api.Table, name string) int {
	return slices.IndexFunc(t.Columns, func(c api.Column) bool { return isCalled(c, name) })
}

// isCalled reports whether a column of a valid definition has this name. Each character of its own name is one byte.
func isCalled(c api.Column, name string) bool {
	if len(c.Name) != len(name) {
		return false
	}
	for i, r := range c.Name {
		if rune(name[i]) != r {
			return false
		}
	}
	return true
}

// used returns the columns of a definition that occur in its key, its foreign keys and its checks.
func used(t api.Table) map[int]bool {
	l := slices.Clone(t.Key)
	for _, f := range t.Foreigns {
		l = append(l, f.Columns...)
	}
	for _, e := range t.Checks {
		l = append(l, expr.Columns(e)...)
	}
	columns := map[int]bool{}
	for _, i := range l {
		columns[i] = true
	}
	return columns
}
