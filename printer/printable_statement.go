package printer

import (
	"bitemporal/api"
	"bitemporal/lexer"
	"bitemporal/period"
	"bitemporal/schema"
	"bitemporal/value"
)

// isStatement reports whether the parser can yield a statement, whatever its depth is.
func isStatement(s api.Statement) bool {
	if !Same(s, used(s)) {
		return false
	}
	switch s.Kind {
	case api.StmtQuery:
		return isPrefix(s.Mode, s.Valid) && isQuery(s.Query)
	case api.StmtInsert, api.StmtUpdate, api.StmtDelete:
		return s.Mode != api.ModeNonsequenced && isPrefix(s.Mode, s.Valid) && isModification(s)
	case api.StmtCreate:
		return isTable(s.Table) && all(s.Checks, isExpression)
	case api.StmtAlter:
		return lexer.Name(s.Name) && isChange(s.Change)
	case api.StmtBegin, api.StmtCommit, api.StmtRollback, api.StmtPrune:
		return true
	case api.StmtNow:
		return isInstant(s.Number)
	case api.StmtHold:
		return isHold(s.Hold)
	case api.StmtRelease:
		return lexer.Name(s.Name)
	case api.StmtRetain:
		return lexer.Name(s.Name) && isFrom(s.Number, 0, api.Forever)
	}
	return false
}

// used returns s with only the fields that statements of its kind use.
func used(s api.Statement) api.Statement {
	u := api.Statement{Kind: s.Kind}
	switch s.Kind {
	case api.StmtQuery:
		u.Mode, u.Valid, u.Query = s.Mode, s.Valid, s.Query
	case api.StmtInsert:
		u.Mode, u.Valid, u.Name, u.Rows = s.Mode, s.Valid, s.Name, s.Rows
	case api.StmtUpdate:
		u.Mode, u.Valid, u.Name, u.Sets, u.HasWhere, u.Where = s.Mode, s.Valid, s.Name, s.Sets, s.HasWhere, s.Where
	case api.StmtDelete:
		u.Mode, u.Valid, u.Name, u.HasWhere, u.Where = s.Mode, s.Valid, s.Name, s.HasWhere, s.Where
	case api.StmtCreate:
		u.Table, u.Checks = s.Table, s.Checks
	case api.StmtAlter:
		u.Name, u.Change = s.Name, s.Change
	case api.StmtNow:
		u.Number = s.Number
	case api.StmtHold:
		u.Hold = s.Hold
	case api.StmtRelease:
		u.Name = s.Name
	case api.StmtRetain:
		u.Name, u.Number = s.Name, s.Number
	}
	return u
}

func isPrefix(mode int, valid api.Period) bool {
	switch mode {
	case api.ModeCurrent, api.ModeNonsequenced:
		return valid == api.Period{}
	case api.ModeValidAt:
		return period.Valid(valid) && valid.To == valid.From+1
	case api.ModeSequenced:
		return period.Valid(valid)
	}
	return false
}

func isModification(s api.Statement) bool {
	if !lexer.Name(s.Name) || !isWhere(s.HasWhere, s.Where) {
		return false
	}
	switch s.Kind {
	case api.StmtInsert:
		return len(s.Rows) > 0 && all(s.Rows, isRow)
	case api.StmtUpdate:
		return len(s.Sets) > 0 && all(s.Sets, isSet)
	}
	return true
}

func isRow(l []api.Expr) bool { return len(l) > 0 && all(l, isExpression) }

func isSet(s api.Set) bool { return lexer.Name(s.Name) && isExpression(s.Expr) }

// isTable reports whether the parser can yield the definition of a table, which has no checks then. As it has a key, it
// has columns.
func isTable(t api.Table) bool {
	isForeign := func(f api.Foreign) bool { return areColumns(t, f.Columns) && lexer.Name(f.Table) }
	return lexer.Name(t.Name) && all(t.Columns, isColumn) && areColumns(t, t.Key) && all(t.Foreigns, isForeign) && len(t.Checks) == 0
}

func isColumn(c api.Column) bool {
	return lexer.Name(c.Name) && isFrom(c.Kind, api.KindInt, api.KindBool)
}

// areColumns reports whether l are columns that their names stand for: the first ones with these names.
func areColumns(t api.Table, l []int) bool {
	return len(l) > 0 && all(l, func(i int) bool {
		return isFrom(i, 0, len(t.Columns)-1) && schema.Find(t, t.Columns[i].Name) == i
	})
}

func isChange(c api.Change) bool {
	switch c.Kind {
	case api.ChangeAdd:
		return isColumn(c.Column) && value.Valid(c.Default) && c == api.Change{Kind: c.Kind, Column: c.Column, Default: c.Default}
	case api.ChangeDrop, api.ChangeText:
		return lexer.Name(c.Name) && c == api.Change{Kind: c.Kind, Name: c.Name}
	case api.ChangeRename:
		return lexer.Name(c.Name) && lexer.Name(c.To) && c == api.Change{Kind: c.Kind, Name: c.Name, To: c.To}
	}
	return false
}

func isHold(h api.Hold) bool {
	return lexer.Name(h.Name) && lexer.Name(h.Table) && period.Valid(h.Rect.Valid) && period.Valid(h.Rect.System)
}
