package binder_test

import (
	"cmp"
	"slices"
	"strconv"
	"strings"

	"bitemporal/api"
	"bitemporal/catalog"
	"bitemporal/expr"
)

// seen is a column of a source, as the chapter describes it. Bounds have no names.
type seen struct {
	source, name string
	kind         int
}

// model binds as the chapter says, and panics with the first error.
type model struct {
	c        []api.Entry
	at, mode int
	sources  []api.Source
}

func demand(holds bool, err api.Errno) {
	if !holds {
		panic(err)
	}
}

// tried returns the result of f, or the error that it panics with.
func tried[T any](f func() T) (result T, err api.Errno) {
	defer func() {
		if e := recover(); e != nil {
			err = e.(api.Errno)
		}
	}()
	return f(), api.OK
}

// columnsOf are the columns of a source.
func (m *model) columnsOf(source string, t api.Table) []seen {
	var l []seen
	for _, c := range t.Columns {
		l = append(l, seen{source, c.Name, c.Kind})
	}
	if m.mode == api.ModeNonsequenced {
		l = append(l, slices.Repeat([]seen{{source, "", api.KindInt}}, 5)...)
	}
	return l
}

func column(i int) api.Expr { return api.Expr{Op: api.OpColumn, Int: i} }

// replaced replaces the names in an expression over columns.
func (m *model) replaced(l []seen, e api.Expr) api.Expr {
	switch e.Op {
	case api.OpName:
		return named(l, e.Name)
	case api.OpPeriod:
		return m.bound(l, e.Name, e.Int)
	case api.OpRelate:
		p, q := e.Args[0].Name, e.Args[1].Name
		return api.Expr{Op: api.OpAllen, Int: e.Int, Args: []api.Expr{m.bound(l, p, 0), m.bound(l, p, 1), m.bound(l, q, 0), m.bound(l, q, 1)}}
	}
	var args []api.Expr
	for _, a := range e.Args {
		args = append(args, m.replaced(l, a))
	}
	e.Args = args
	return e
}

func named(l []seen, name string) api.Expr {
	source, last, qualified := strings.Cut(name, ".")
	if !qualified {
		last = name
	}
	var found []int
	for i, c := range l {
		if c.name == last && (!qualified || c.source == source) {
			found = append(found, i)
		}
	}
	demand(len(found) > 0, api.ErrNotFound)
	demand(len(found) == 1, api.ErrAmbiguous)
	return column(found[0])
}

// bound returns the column of a bound of a source.
func (m *model) bound(l []seen, source string, n int) api.Expr {
	demand(m.mode == api.ModeNonsequenced, api.ErrMode)
	first := slices.Index(l, seen{source, "", api.KindInt})
	demand(first >= 0, api.ErrNotFound)
	return column(first + n)
}

// expr binds an expression over columns.
func (m *model) expr(l []seen, e api.Expr) (api.Expr, int) {
	e = m.replaced(l, e)
	var kinds []int
	for _, c := range l {
		kinds = append(kinds, c.kind)
	}
	kind, err := expr.Check(e, kinds)
	demand(err == api.OK, err)
	return e, kind
}

func (m *model) condition(l []seen, e api.Expr) api.Expr {
	e, kind := m.expr(l, e)
	demand(kind == api.KindBool || kind == api.KindNull, api.ErrKind)
	return e
}

// from returns the plan of the sources of a select, and their columns.
func (m *model) from(s api.Select) (api.Plan, []seen) {
	var p api.Plan
	var l []seen
	for i, j := range append([]api.Join{{Source: s.From}}, s.Joins...) {
		at := m.at
		if j.Source.Clause.Kind == api.ClauseAsOf {
			at = j.Source.Clause.From
		}
		if j.Source.Under != -1 {
			at = j.Source.Under
		}
		t, _, err := catalog.AsOf(m.c, at, j.Source.Table)
		demand(err == api.OK, api.ErrNotFound)
		source := cmp.Or(j.Source.Alias, j.Source.Table)
		demand(!slices.ContainsFunc(l, func(c seen) bool { return c.source == source }), api.ErrExists)
		l = append(l, m.columnsOf(source, t)...)
		demand(len(l) <= 48, api.ErrColumns)
		scan := api.Plan{Op: api.PlanScan, Int: len(m.sources)}
		m.sources = append(m.sources, j.Source)
		if i == 0 {
			p = scan
			continue
		}
		op := api.PlanJoin
		if j.Left {
			op = api.PlanLeft
		}
		p = api.Plan{Op: op, Pred: m.condition(l, j.On), Inputs: []api.Plan{p, scan}}
	}
	return p, l
}

// a chosen item has its expression, its place among the GroupBy columns if it has no aggregate, and its column.
type chosenItem struct {
	e      api.Expr
	key    int
	column api.Column
}

func (m *model) item(l []seen, keys []api.Expr, i api.Item, number int) chosenItem {
	if i.Star {
		return chosenItem{column: api.Column{Name: cmp.Or(i.Name, "count"), Kind: api.KindInt}}
	}
	e, kind := m.expr(l, i.Expr)
	x := chosenItem{e: e, key: slices.IndexFunc(keys, func(k api.Expr) bool { return expr.Same(k, e) })}
	demand(len(keys) == 0 || i.Agg != 0 || i.Expr.Op == api.OpName && x.key >= 0, api.ErrInvalid)
	demand(kind != api.KindNull && (i.Agg != api.AggSum || kind == api.KindInt), api.ErrKind)
	if i.Agg == api.AggCount {
		kind = api.KindInt
	}
	name := "column" + strconv.Itoa(number)
	if i.Expr.Op == api.OpName {
		parts := strings.Split(i.Expr.Name, ".")
		name = parts[len(parts)-1]
	}
	name = cmp.Or([]string{"", "count", "sum", "min", "max"}[i.Agg], name)
	x.column = api.Column{Name: cmp.Or(i.Name, name), Kind: kind}
	return x
}

func (m *model) selection(s api.Select) (api.Plan, []api.Column) {
	p, l := m.from(s)
	if s.HasWhere {
		p = api.Plan{Op: api.PlanFilter, Pred: m.condition(l, s.Where), Inputs: []api.Plan{p}}
	}
	var keys []api.Expr
	for _, e := range s.GroupBy {
		key, _ := m.expr(l, e)
		keys = append(keys, key)
	}
	var columns []api.Column
	hasAggregate := slices.ContainsFunc(s.Items, func(i api.Item) bool { return i.Agg != 0 })
	switch {
	case len(keys) > 0 || hasAggregate:
		p, columns = m.grouped(s, p, l, keys)
	case s.Items[0].Star:
		p, columns = starred(p, l)
	default:
		var exprs []api.Expr
		for i, item := range s.Items {
			x := m.item(l, nil, item, i+1)
			exprs, columns = append(exprs, x.e), append(columns, x.column)
		}
		p = api.Plan{Op: api.PlanProject, Exprs: exprs, Inputs: []api.Plan{p}}
	}
	demand(len(columns) <= 12, api.ErrColumns)
	if s.Distinct {
		p = api.Plan{Op: api.PlanDistinct, Inputs: []api.Plan{p}}
	}
	return p, columns
}

func starred(p api.Plan, l []seen) (api.Plan, []api.Column) {
	var exprs []api.Expr
	var columns []api.Column
	for i, c := range l {
		if c.name != "" {
			exprs = append(exprs, column(i))
			columns = append(columns, api.Column{Name: c.name, Kind: c.kind})
		}
	}
	return api.Plan{Op: api.PlanProject, Exprs: exprs, Inputs: []api.Plan{p}}, columns
}

func (m *model) grouped(s api.Select, p api.Plan, l []seen, keys []api.Expr) (api.Plan, []api.Column) {
	var places []int
	for i := range keys {
		places = append(places, i)
	}
	inner, final := slices.Clone(keys), []api.Expr(nil)
	var aggs []api.Agg
	var columns []api.Column
	for i, item := range s.Items {
		demand(item.Agg != 0 || !item.Star, api.ErrInvalid)
		if len(keys) == 0 && item.Agg == 0 {
			m.expr(l, item.Expr)
			panic(api.ErrInvalid)
		}
		x := m.item(l, keys, item, i+1)
		columns = append(columns, x.column)
		switch {
		case item.Agg == 0:
			final = append(final, column(x.key))
			continue
		case item.Star:
			aggs = append(aggs, api.Agg{Op: item.Agg, Arg: -1})
		default:
			aggs = append(aggs, api.Agg{Op: item.Agg, Arg: len(inner)})
			inner = append(inner, x.e)
		}
		final = append(final, column(len(keys)+len(aggs)-1))
	}
	demand(len(columns) <= 12 && len(inner) <= 48, api.ErrColumns)
	if len(inner) == 0 {
		inner = []api.Expr{{Op: api.OpConst, Value: api.Value{Kind: api.KindBool, Int: 1}}}
	}
	p = api.Plan{Op: api.PlanProject, Exprs: inner, Inputs: []api.Plan{p}}
	p = api.Plan{Op: api.PlanGroup, Keys: places, Aggs: aggs, Inputs: []api.Plan{p}}
	return api.Plan{Op: api.PlanProject, Exprs: final, Inputs: []api.Plan{p}}, columns
}

func (m *model) query(q api.Query) (api.Plan, []api.Column) {
	if q.Op == api.QuerySelect {
		return m.selection(q.Select)
	}
	first, a := m.query(q.Args[0])
	second, b := m.query(q.Args[1])
	demand(len(a) == len(b), api.ErrColumns)
	for i := range a {
		demand(a[i].Kind == b[i].Kind, api.ErrKind)
	}
	op := []int{0, api.PlanUnion, api.PlanExcept, api.PlanIntersect}[q.Op]
	if q.Op != api.QueryUnion && !q.All {
		first = api.Plan{Op: api.PlanDistinct, Inputs: []api.Plan{first}}
		second = api.Plan{Op: api.PlanDistinct, Inputs: []api.Plan{second}}
	}
	p := api.Plan{Op: op, Inputs: []api.Plan{first, second}}
	if q.Op == api.QueryUnion && !q.All {
		p = api.Plan{Op: api.PlanDistinct, Inputs: []api.Plan{p}}
	}
	return p, a
}

// bound binds a query as the chapter says.
func bound(c []api.Entry, at, mode int, q api.Query) (api.Bound, api.Errno) {
	return tried(func() api.Bound {
		demand(mode != api.ModeSequenced || len(q.Order) == 0 && q.Limit == -1, api.ErrMode)
		m := &model{c: c, at: at, mode: mode}
		p, columns := m.query(q)
		for _, o := range q.Order {
			demand(o.Column < len(columns), api.ErrColumns)
		}
		demand(depth(p) <= 24, api.ErrDepth)
		return api.Bound{Plan: p, Sources: m.sources, Columns: columns, Order: q.Order, Limit: q.Limit}
	})
}

func depth(p api.Plan) int {
	d := 0
	for _, i := range p.Inputs {
		d = max(d, depth(i))
	}
	return d + 1
}
