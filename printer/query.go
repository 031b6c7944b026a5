package printer

import (
	"strconv"

	"bitemporal/api"
)

// query writes a query without a prefix.
func (w *writer) query(q api.Query) string {
	text := w.combined(q)
	if len(q.Order) > 0 {
		text = spaced(text, "ORDER BY", list(q.Order, order))
	}
	if q.Limit >= 0 {
		text = spaced(text, "LIMIT", strconv.Itoa(q.Limit))
	}
	return text
}

func order(o api.Order) string { return spaced(strconv.Itoa(o.Column+1), when(o.Desc, "DESC")) }

// combined writes a select or a combination.
func (w *writer) combined(q api.Query) string {
	if q.Op == api.QuerySelect {
		return w.selection(q.Select)
	}
	second := w.combined(q.Args[1])
	if q.Args[1].Op != api.QuerySelect {
		second = inParentheses(second)
	}
	return spaced(w.combined(q.Args[0]), combination(q.Op), when(q.All, "ALL"), second)
}

// combination returns the keyword of a combination.
func combination(op int) string { return [...]string{"", "UNION", "EXCEPT", "INTERSECT"}[op] }

// selection writes a select.
func (w *writer) selection(s api.Select) string {
	parts := []string{"SELECT", when(s.Distinct, "DISTINCT"), list(s.Items, w.item), "FROM", source(s.From)}
	for _, j := range s.Joins {
		parts = append(parts, w.join(j))
	}
	parts = append(parts, w.where(s.HasWhere, s.Where))
	if len(s.GroupBy) > 0 {
		parts = append(parts, "GROUP BY", list(s.GroupBy, w.expression))
	}
	return spaced(parts...)
}

// item writes an item of a select.
func (w *writer) item(i api.Item) string {
	text := "*"
	if !i.Star {
		text = w.expression(i.Expr)
	}
	if i.Agg != 0 {
		text = aggregate(i.Agg) + inParentheses(text)
	}
	return spaced(text, named(i.Name))
}

// aggregate returns the keyword of an aggregate function.
func aggregate(op int) string { return [...]string{"", "COUNT", "SUM", "MIN", "MAX"}[op] }

// named writes the name that something gets, if there is one.
func named(name string) string { return when(name != "", "AS "+name) }

// source writes a table of a query.
func source(s api.Source) string {
	text := spaced(s.Table, named(s.Alias), clause(s.Clause))
	if s.Under >= 0 {
		text = spaced(text, "UNDER", strconv.Itoa(s.Under))
	}
	return text
}

// clause writes a clause on system time.
func clause(c api.Clause) string {
	switch c.Kind {
	case api.ClauseAsOf:
		return spaced("SYSTEM AS OF", strconv.Itoa(c.From))
	case api.ClauseFromTo:
		return spaced("SYSTEM", during(api.Period{From: c.From, To: c.To}))
	case api.ClauseBetween:
		return spaced("SYSTEM BETWEEN", strconv.Itoa(c.From), "AND", strconv.Itoa(c.To))
	case api.ClauseAll:
		return "SYSTEM ALL"
	}
	return ""
}

// during writes a period.
func during(p api.Period) string {
	to := "FOREVER"
	if p.To != api.Forever {
		to = strconv.Itoa(p.To)
	}
	return spaced("FROM", strconv.Itoa(p.From), "TO", to)
}

// join writes a further table of a query.
func (w *writer) join(j api.Join) string {
	return spaced(when(j.Left, "LEFT"), "JOIN", source(j.Source), "ON", w.expression(j.On))
}

// where writes a condition, if there is one.
func (w *writer) where(has bool, e api.Expr) string {
	if !has {
		return ""
	}
	return spaced("WHERE", w.expression(e))
}
