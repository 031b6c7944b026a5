package binder

import (
	"slices"

	"bitemporal/api"
	"bitemporal/catalog"
)

// translation translates a query into a plan. It keeps the sources of the scans so far.
type translation struct {
	catalog  []api.Entry
	at, mode int
	sources  []api.Source
}

// result is the plan of a query and the columns of its result.
type result struct {
	plan    api.Plan
	columns []api.Column
}

// query translates a query but for its order and its limit.
func (t *translation) query(q api.Query) (result, api.Errno) {
	if q.Op == api.QuerySelect {
		return t.selection(q.Select)
	}
	if len(q.Args) != 2 {
		return result{}, api.ErrInvalid
	}
	first, err := t.query(q.Args[0])
	if err != api.OK {
		return result{}, err
	}
	second, err := t.query(q.Args[1])
	if err != api.OK {
		return result{}, err
	}
	if err := matching(first.columns, second.columns); err != api.OK {
		return result{}, err
	}
	return result{combine(q.Op, q.All, first.plan, second.plan), first.columns}, api.OK
}

// matching reports whether two lists of columns have the same kinds.
func matching(a, b []api.Column) api.Errno {
	switch {
	case len(a) != len(b):
		return api.ErrColumns
	case !slices.EqualFunc(a, b, func(c, d api.Column) bool { return c.Kind == d.Kind }):
		return api.ErrKind
	}
	return api.OK
}

// selection translates a select.
func (t *translation) selection(l api.Select) (result, api.Errno) {
	s := newScope(t.mode)
	p, err := t.sourcesOf(l, s)
	if err != api.OK {
		return result{}, err
	}
	if l.HasWhere {
		where, err := s.condition(l.Where)
		if err != api.OK {
			return result{}, err
		}
		p = filter(where, p)
	}
	r, err := s.output(l, p)
	if err != api.OK {
		return result{}, err
	}
	if l.Distinct {
		r.plan = distinct(r.plan)
	}
	return r, api.OK
}

// sourcesOf returns the plan that joins the sources of a select, and adds their columns to a scope.
func (t *translation) sourcesOf(l api.Select, s *scope) (api.Plan, api.Errno) {
	p, err := t.source(l.From, s)
	for _, j := range l.Joins {
		if err != api.OK {
			break
		}
		p, err = t.joined(p, j, s)
	}
	return p, err
}

// joined returns the plan that joins a plan with a further source.
func (t *translation) joined(p api.Plan, j api.Join, s *scope) (api.Plan, api.Errno) {
	next, err := t.source(j.Source, s)
	if err != api.OK {
		return api.Plan{}, err
	}
	on, err := s.condition(j.On)
	if err != api.OK {
		return api.Plan{}, err
	}
	return join(j.Left, on, p, next), api.OK
}

// source returns the plan that scans a source, and adds its columns to a scope.
func (t *translation) source(x api.Source, s *scope) (api.Plan, api.Errno) {
	table, _, err := catalog.AsOf(t.catalog, t.time(x), x.Table)
	if err != api.OK {
		return api.Plan{}, err
	}
	name := x.Alias
	if name == "" {
		name = x.Table
	}
	if s.has(name) {
		return api.Plan{}, api.ErrExists
	}
	s.add(name, table.Columns)
	if len(s.columns) > 4*api.MaxColumns {
		return api.Plan{}, api.ErrColumns
	}
	t.sources = append(t.sources, x)
	return scan(len(t.sources) - 1), api.OK
}

// time returns the system time whose schema a source uses.
func (t *translation) time(x api.Source) int {
	switch {
	case x.Under != -1:
		return x.Under
	case x.Clause.Kind == api.ClauseAsOf:
		return x.Clause.From
	}
	return t.at
}
