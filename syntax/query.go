package syntax

import "bitemporal/api"

// query reads combined [ORDER BY ..] [LIMIT number].
func (p *parser) query() api.Query {
	q := p.combined()
	p.deep = p.deep || depth(q) > api.MaxDepth
	if p.has("ORDER") {
		p.need("BY")
		q.Order = list(p, (*parser).order)
	}
	if p.has("LIMIT") {
		q.Limit = p.number()
	}
	return q
}

func depth(q api.Query) int {
	deepest := 0
	for i := range q.Args {
		deepest = max(deepest, depth(q.Args[i]))
	}
	return 1 + deepest
}

// order reads number [DESC].
func (p *parser) order() api.Order {
	t := p.take(api.TokenNumber)
	if t.Int == 0 {
		panic(failure{t.At, api.ErrRange})
	}
	return api.Order{Column: t.Int - 1, Desc: p.has("DESC")}
}

// combined reads term {(UNION | EXCEPT | INTERSECT) [ALL] term}.
func (p *parser) combined() api.Query {
	q := p.term()
	for op := combining(p.mark()); op != api.QuerySelect; op = combining(p.mark()) {
		p.next++
		all := p.has("ALL")
		q = api.Query{Op: op, All: all, Args: []api.Query{q, p.term()}, Limit: -1}
	}
	return q
}

// combining returns the combination that a mark names, or QuerySelect.
func combining(m string) int {
	switch m {
	case "UNION":
		return api.QueryUnion
	case "EXCEPT":
		return api.QueryExcept
	case "INTERSECT":
		return api.QueryIntersect
	}
	return api.QuerySelect
}

// term reads select | "(" combined ")".
func (p *parser) term() api.Query {
	if p.mark() == "(" {
		return inParentheses(p, (*parser).combined)
	}
	return api.Query{Op: api.QuerySelect, Select: p.selection(), Limit: -1}
}

// selection reads a select.
func (p *parser) selection() api.Select {
	var s api.Select
	p.need("SELECT")
	s.Distinct = p.has("DISTINCT")
	s.Items = p.items()
	p.need("FROM")
	s.From = p.source()
	for p.mark() == "LEFT" || p.mark() == "JOIN" {
		s.Joins = append(s.Joins, p.join())
	}
	s.HasWhere, s.Where = p.where()
	if p.has("GROUP") {
		p.need("BY")
		s.GroupBy = list(p, (*parser).reference)
	}
	return s
}

// items reads "*" | item {"," item}.
func (p *parser) items() []api.Item {
	if p.has("*") {
		return []api.Item{{Star: true}}
	}
	return list(p, (*parser).item)
}

// item reads an aggregate or an expression, and [AS name].
func (p *parser) item() api.Item {
	i := p.selected()
	if p.has("AS") {
		i.Name = p.name()
	}
	return i
}

func (p *parser) selected() api.Item {
	agg := aggregate(p.mark())
	if agg == 0 {
		return api.Item{Expr: p.expression()}
	}
	p.next++
	i := inParentheses(p, func(p *parser) api.Item {
		if agg == api.AggCount && p.has("*") {
			return api.Item{Star: true}
		}
		return api.Item{Expr: p.expression()}
	})
	i.Agg = agg
	return i
}

// aggregate returns the aggregate function that a mark names, or 0.
func aggregate(m string) int {
	switch m {
	case "COUNT":
		return api.AggCount
	case "SUM":
		return api.AggSum
	case "MIN":
		return api.AggMin
	case "MAX":
		return api.AggMax
	}
	return 0
}

// source reads name [AS name] [SYSTEM ..] [UNDER number].
func (p *parser) source() api.Source {
	s := api.Source{Table: p.name(), Under: -1}
	if p.has("AS") {
		s.Alias = p.name()
	}
	if p.has("SYSTEM") {
		s.Clause = p.clause()
	}
	if p.has("UNDER") {
		s.Under = p.instant()
	}
	return s
}

// join reads [LEFT] JOIN source ON expr.
func (p *parser) join() api.Join {
	j := api.Join{Left: p.has("LEFT")}
	p.need("JOIN")
	j.Source = p.source()
	p.need("ON")
	j.On = p.expression()
	return j
}

// where reads [WHERE expr].
func (p *parser) where() (bool, api.Expr) {
	if !p.has("WHERE") {
		return false, api.Expr{}
	}
	return true, p.expression()
}
