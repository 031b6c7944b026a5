package schema

import (
	"bitemporal/api"
	"bitemporal/expr"
)

// most is the greatest number of foreign keys, and of checks, of a table.
const most = 4

// Check reports whether a definition is valid.
func Check(t api.Table) api.Errno {
	if !Name(t.Name) {
		return api.ErrSyntax
	}
	if err := checkColumns(t.Columns); err != api.OK {
		return err
	}
	if err := checkKey(t); err != api.OK {
		return err
	}
	if err := checkForeigns(t); err != api.OK {
		return err
	}
	return checkChecks(t)
}

func checkColumns(l []api.Column) api.Errno {
	if len(l) == 0 || len(l) > api.MaxColumns {
		return api.ErrColumns
	}
	names := map[string]bool{}
	for _, c := range l {
		switch {
		case !Name(c.Name):
			return api.ErrSyntax
		case c.Kind < api.KindInt || c.Kind > api.KindBool:
			return api.ErrKind
		case names[c.Name]:
			return api.ErrExists
		}
		names[c.Name] = true
	}
	return api.OK
}

// checkKey returns the first error of the key of a table whose columns are valid.
func checkKey(t api.Table) api.Errno {
	if len(t.Key) == 0 {
		return api.ErrSchema
	}
	last := -1
	for _, i := range t.Key {
		if i <= last || i >= len(t.Columns) {
			return api.ErrSchema
		}
		if t.Columns[i].Nullable {
			return api.ErrNull
		}
		last = i
	}
	return api.OK
}

func checkForeigns(t api.Table) api.Errno {
	if len(t.Foreigns) > most {
		return api.ErrTooLong
	}
	for _, f := range t.Foreigns {
		if !Name(f.Table) {
			return api.ErrSyntax
		}
		if len(f.Columns) == 0 || !areDifferent(f.Columns, len(t.Columns)) {
			return api.ErrSchema
		}
	}
	return api.OK
}

// areDifferent reports whether l consists of different indices of a list of n elements.
func areDifferent(l []int, n int) bool {
	occurred := map[int]bool{}
	for _, i := range l {
		if i < 0 || i >= n || occurred[i] {
			return false
		}
		occurred[i] = true
	}
	return true
}

func checkChecks(t api.Table) api.Errno {
	if len(t.Checks) > most {
		return api.ErrTooLong
	}
	kinds := Kinds(t)
	for _, e := range t.Checks {
		kind, err := expr.Check(e, kinds)
		if err != api.OK {
			return err
		}
		if kind != api.KindBool && kind != api.KindNull {
			return api.ErrKind
		}
	}
	return api.OK
}
