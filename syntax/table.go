package syntax

import (
	"slices"

	"bitemporal/api"
)

// create reads CREATE TABLE.
func (p *parser) create() api.Statement {
	p.need("CREATE", "TABLE")
	s := api.Statement{Kind: api.StmtCreate}
	s.Table.Name = p.name()
	p.need("(")
	s.Table.Columns = p.columns()
	p.need("PRIMARY", "KEY")
	s.Table.Key = p.indices(s.Table.Columns)
	for p.has(",") {
		if len(s.Checks) == 0 && p.has("FOREIGN") {
			s.Table.Foreigns = append(s.Table.Foreigns, p.foreign(s.Table.Columns))
			continue
		}
		p.need("CHECK")
		s.Checks = append(s.Checks, inParentheses(p, (*parser).expression))
	}
	p.need(")")
	return s
}

// columns reads column {"," column} ",".
func (p *parser) columns() []api.Column {
	l := []api.Column{p.column()}
	for p.need(","); p.token().Kind == api.TokenName; p.need(",") {
		l = append(l, p.column())
	}
	return l
}

// column reads name (INT | TEXT | BOOL) [NULL].
func (p *parser) column() api.Column {
	c := api.Column{Name: p.name(), Kind: kind(p.mark())}
	if c.Kind == api.KindNull {
		panic(p.unexpected())
	}
	p.next++
	c.Nullable = p.has("NULL")
	return c
}

// kind returns the kind that a mark names, or KindNull.
func kind(m string) int {
	switch m {
	case "INT":
		return api.KindInt
	case "TEXT":
		return api.KindText
	case "BOOL":
		return api.KindBool
	}
	return api.KindNull
}

// indices reads names, and returns the indices of these columns. They are looked up when all have been read.
func (p *parser) indices(columns []api.Column) []int {
	names := inParentheses(p, func(p *parser) []api.Token { return list(p, (*parser).nameToken) })
	l := make([]int, len(names))
	for i, t := range names {
		l[i] = slices.IndexFunc(columns, func(c api.Column) bool { return c.Name == t.Text })
		if l[i] < 0 {
			panic(failure{t.At, api.ErrNotFound})
		}
	}
	return l
}

func (p *parser) nameToken() api.Token { return p.take(api.TokenName) }

// foreign reads KEY names REFERENCES name.
func (p *parser) foreign(columns []api.Column) api.Foreign {
	p.need("KEY")
	f := api.Foreign{Columns: p.indices(columns)}
	p.need("REFERENCES")
	f.Table = p.name()
	return f
}

// alter reads ALTER TABLE.
func (p *parser) alter() api.Statement {
	p.need("ALTER", "TABLE")
	return api.Statement{Kind: api.StmtAlter, Name: p.name(), Change: p.change()}
}

func (p *parser) change() api.Change {
	switch p.mark() {
	case "ADD":
		p.next++
		c := api.Change{Kind: api.ChangeAdd, Column: p.column()}
		p.need("DEFAULT")
		c.Default = p.literal()
		return c
	case "RENAME":
		p.next++
		c := api.Change{Kind: api.ChangeRename, Name: p.name()}
		p.need("TO")
		c.To = p.name()
		return c
	case "DROP":
		p.next++
		return api.Change{Kind: api.ChangeDrop, Name: p.name()}
	}
	p.need("TEXT")
	return api.Change{Kind: api.ChangeText, Name: p.name()}
}
