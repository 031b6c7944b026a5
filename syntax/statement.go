package syntax

import "bitemporal/api"

// statement reads a statement: with a prefix it is a query or a modification.
func (p *parser) statement() api.Statement {
	switch m := p.mark(); m {
	case "VALID", "SEQUENCED", "NONSEQUENCED":
		mode, valid := p.prefix()
		return p.temporal(mode, valid)
	case "CREATE":
		return p.create()
	case "ALTER":
		return p.alter()
	case "BEGIN", "COMMIT", "ROLLBACK", "PRUNE":
		p.next++
		return api.Statement{Kind: simple(m)}
	case "SET":
		p.need("SET", "NOW")
		return api.Statement{Kind: api.StmtNow, Number: p.instant()}
	case "HOLD", "RELEASE", "RETAIN":
		return p.retention()
	}
	return p.temporal(api.ModeCurrent, api.Period{})
}

// simple returns the kind of a statement of one word.
func simple(m string) int {
	switch m {
	case "BEGIN":
		return api.StmtBegin
	case "COMMIT":
		return api.StmtCommit
	case "ROLLBACK":
		return api.StmtRollback
	}
	return api.StmtPrune
}

// prefix reads VALID AS OF number | SEQUENCED [period] | NONSEQUENCED.
func (p *parser) prefix() (int, api.Period) {
	if p.has("NONSEQUENCED") {
		return api.ModeNonsequenced, api.Period{}
	}
	if p.has("VALID") {
		p.need("AS", "OF")
		at := p.instant()
		return api.ModeValidAt, api.Period{From: at, To: at + 1}
	}
	p.need("SEQUENCED")
	if p.mark() == "FROM" {
		return api.ModeSequenced, p.period()
	}
	return api.ModeSequenced, api.Period{From: 0, To: api.Forever}
}

// temporal reads a query or a modification in a mode.
func (p *parser) temporal(mode int, valid api.Period) api.Statement {
	var s api.Statement
	switch p.mark() {
	case "INSERT", "UPDATE", "DELETE":
		if mode == api.ModeNonsequenced {
			panic(failure{p.token().At, api.ErrMode})
		}
		s = p.modification()
	default:
		s = api.Statement{Kind: api.StmtQuery, Query: p.query()}
	}
	s.Mode, s.Valid = mode, valid
	return s
}

func (p *parser) modification() api.Statement {
	if p.has("INSERT") {
		p.need("INTO")
		s := api.Statement{Kind: api.StmtInsert, Name: p.name()}
		p.need("VALUES")
		s.Rows = list(p, (*parser).row)
		return s
	}
	var s api.Statement
	if p.has("UPDATE") {
		s = api.Statement{Kind: api.StmtUpdate, Name: p.name()}
		p.need("SET")
		s.Sets = list(p, (*parser).set)
	} else {
		p.need("DELETE", "FROM")
		s = api.Statement{Kind: api.StmtDelete, Name: p.name()}
	}
	s.HasWhere, s.Where = p.where()
	return s
}

// row reads "(" expr {"," expr} ")".
func (p *parser) row() []api.Expr {
	return inParentheses(p, func(p *parser) []api.Expr { return list(p, (*parser).expression) })
}

// set reads name "=" expr.
func (p *parser) set() api.Set {
	name := p.name()
	p.need("=")
	return api.Set{Name: name, Expr: p.expression()}
}

// retention reads HOLD, RELEASE or RETAIN.
func (p *parser) retention() api.Statement {
	if p.has("HOLD") {
		return api.Statement{Kind: api.StmtHold, Hold: p.hold()}
	}
	if p.has("RELEASE") {
		return api.Statement{Kind: api.StmtRelease, Name: p.name()}
	}
	p.need("RETAIN")
	name, keep := p.name(), p.take(api.TokenNumber)
	if keep.Int > api.Forever {
		panic(failure{keep.At, api.ErrRange})
	}
	return api.Statement{Kind: api.StmtRetain, Name: name, Number: keep.Int}
}

// hold reads name ON name VALID period SYSTEM period.
func (p *parser) hold() api.Hold {
	h := api.Hold{Name: p.name()}
	p.need("ON")
	h.Table = p.name()
	p.need("VALID")
	h.Rect.Valid = p.period()
	p.need("SYSTEM")
	h.Rect.System = p.period()
	return h
}
