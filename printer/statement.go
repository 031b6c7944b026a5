package printer

import (
	"strconv"
	"strings"

	"bitemporal/api"
	"bitemporal/value"
)

// statement writes a statement.
func (w *writer) statement(s api.Statement) string {
	switch s.Kind {
	case api.StmtQuery:
		return spaced(prefix(s.Mode, s.Valid), w.query(s.Query))
	case api.StmtInsert, api.StmtUpdate, api.StmtDelete:
		return spaced(prefix(s.Mode, s.Valid), w.modification(s))
	case api.StmtCreate:
		return spaced("CREATE TABLE", s.Table.Name, inParentheses(w.definition(s.Table, s.Checks)))
	case api.StmtAlter:
		return spaced("ALTER TABLE", s.Name, change(s.Change))
	case api.StmtBegin:
		return "BEGIN"
	case api.StmtCommit:
		return "COMMIT"
	case api.StmtRollback:
		return "ROLLBACK"
	case api.StmtNow:
		return spaced("SET NOW", strconv.Itoa(s.Number))
	case api.StmtHold:
		return hold(s.Hold)
	case api.StmtRelease:
		return spaced("RELEASE", s.Name)
	case api.StmtRetain:
		return spaced("RETAIN", s.Name, strconv.Itoa(s.Number))
	}
	return "PRUNE"
}

// prefix writes the mode of a query or a modification.
func prefix(mode int, valid api.Period) string {
	switch mode {
	case api.ModeValidAt:
		return spaced("VALID AS OF", strconv.Itoa(valid.From))
	case api.ModeSequenced:
		always := valid == api.Period{From: 0, To: api.Forever}
		return spaced("SEQUENCED", when(!always, during(valid)))
	case api.ModeNonsequenced:
		return "NONSEQUENCED"
	}
	return ""
}

// modification writes INSERT, UPDATE or DELETE without a prefix.
func (w *writer) modification(s api.Statement) string {
	switch s.Kind {
	case api.StmtInsert:
		return spaced("INSERT INTO", s.Name, "VALUES", list(s.Rows, w.row))
	case api.StmtUpdate:
		return spaced("UPDATE", s.Name, "SET", list(s.Sets, w.set), w.where(s.HasWhere, s.Where))
	}
	return spaced("DELETE FROM", s.Name, w.where(s.HasWhere, s.Where))
}

func (w *writer) row(l []api.Expr) string { return inParentheses(list(l, w.expression)) }

func (w *writer) set(s api.Set) string { return spaced(s.Name, "=", w.expression(s.Expr)) }

// definition writes the columns, the keys and the checks of a table.
func (w *writer) definition(t api.Table, checks []api.Expr) string {
	names := func(l []int) string {
		return inParentheses(list(l, func(i int) string { return t.Columns[i].Name }))
	}
	parts := []string{list(t.Columns, column), spaced("PRIMARY KEY", names(t.Key))}
	for _, f := range t.Foreigns {
		parts = append(parts, spaced("FOREIGN KEY", names(f.Columns), "REFERENCES", f.Table))
	}
	for _, e := range checks {
		parts = append(parts, spaced("CHECK", inParentheses(w.expression(e))))
	}
	return strings.Join(parts, ", ")
}

// column writes the definition of a column.
func column(c api.Column) string { return spaced(c.Name, kind(c.Kind), when(c.Nullable, "NULL")) }

// kind returns the keyword of a kind.
func kind(k int) string { return [...]string{"", "INT", "TEXT", "BOOL"}[k] }

// change writes a schema change.
func change(c api.Change) string {
	switch c.Kind {
	case api.ChangeAdd:
		return spaced("ADD", column(c.Column), "DEFAULT", value.Literal(c.Default))
	case api.ChangeDrop:
		return spaced("DROP", c.Name)
	case api.ChangeRename:
		return spaced("RENAME", c.Name, "TO", c.To)
	}
	return spaced("TEXT", c.Name)
}

// hold writes HOLD.
func hold(h api.Hold) string {
	return spaced("HOLD", h.Name, "ON", h.Table, "VALID", during(h.Rect.Valid), "SYSTEM", during(h.Rect.System))
}
