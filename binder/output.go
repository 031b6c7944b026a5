package binder

import (
	"slices"
	"strconv"
	"strings"

	"bitemporal/api"
	"bitemporal/value"
)

// output translates the items of a select over the plan of its sources.
func (s *scope) output(l api.Select, p api.Plan) (result, api.Errno) {
	isAggregate := func(i api.Item) bool { return i.Agg != 0 }
	if len(l.GroupBy) > 0 || slices.ContainsFunc(l.Items, isAggregate) {
		return s.grouped(l, p)
	}
	return s.plain(l.Items, p)
}

// plain translates items without aggregates.
func (s *scope) plain(l []api.Item, p api.Plan) (result, api.Errno) {
	var exprs []api.Expr
	var columns []api.Column
	for i, item := range l {
		if item.Star {
			exprs, columns = s.all()
			break
		}
		e, kind, err := s.bind(item.Expr)
		if err == api.OK && kind == api.KindNull {
			err = api.ErrKind
		}
		if err != api.OK {
			return result{}, err
		}
		exprs = append(exprs, e)
		columns = append(columns, api.Column{Name: name(item, i+1), Kind: kind})
	}
	if len(columns) > api.MaxColumns {
		return result{}, api.ErrColumns
	}
	return result{project(exprs, p), columns}, api.OK
}

// all returns the columns of the tables without their bounds.
func (s *scope) all() ([]api.Expr, []api.Column) {
	var exprs []api.Expr
	var columns []api.Column
	for i, c := range s.columns {
		if c.Name != "" {
			exprs = append(exprs, column(i))
			columns = append(columns, api.Column{Name: c.Name, Kind: c.Kind})
		}
	}
	return exprs, columns
}

// grouping is what is known of a grouped select.
type grouping struct {
	keys  int        // the number of GroupBy columns
	exprs []api.Expr // these columns and the arguments of the aggregates
	aggs  []api.Agg
}

// grouped translates a select with a GroupBy or an aggregate.
func (s *scope) grouped(l api.Select, p api.Plan) (result, api.Errno) {
	g := grouping{keys: len(l.GroupBy)}
	for _, e := range l.GroupBy {
		key, _, err := s.bind(e)
		if err != api.OK {
			return result{}, err
		}
		g.exprs = append(g.exprs, key)
	}
	var items []api.Expr
	var columns []api.Column
	for i, item := range l.Items {
		place, kind, err := s.member(&g, item)
		if err != api.OK {
			return result{}, err
		}
		items = append(items, column(place))
		columns = append(columns, api.Column{Name: name(item, i+1), Kind: kind})
	}
	if len(columns) > api.MaxColumns || len(g.exprs) > 4*api.MaxColumns {
		return result{}, api.ErrColumns
	}
	return result{project(items, g.plan(p)), columns}, api.OK
}

// plan returns the plan that groups another one.
func (g grouping) plan(p api.Plan) api.Plan {
	exprs := g.exprs
	if len(exprs) == 0 {
		exprs = []api.Expr{{Op: api.OpConst, Value: value.Bool(true)}}
	}
	return group(g.keys, g.aggs, project(exprs, p))
}

// member returns the place of an item among the keys and the aggregates, to which it may be added, and its kind.
func (s *scope) member(g *grouping, item api.Item) (int, int, api.Errno) {
	if item.Star && item.Agg == 0 {
		return 0, 0, api.ErrInvalid
	}
	if item.Star {
		return g.add(api.Agg{Op: item.Agg, Arg: -1}), api.KindInt, api.OK
	}
	e, kind, err := s.bind(item.Expr)
	if err != api.OK {
		return 0, 0, err
	}
	if item.Agg == 0 {
		place := g.key(e)
		if item.Expr.Op != api.OpName || place < 0 {
			return 0, 0, api.ErrInvalid
		}
		return place, kind, api.OK
	}
	if kind == api.KindNull || item.Agg == api.AggSum && kind != api.KindInt {
		return 0, 0, api.ErrKind
	}
	g.exprs = append(g.exprs, e)
	if item.Agg == api.AggCount {
		kind = api.KindInt
	}
	return g.add(api.Agg{Op: item.Agg, Arg: len(g.exprs) - 1}), kind, api.OK
}

// add adds an aggregate and returns its place.
func (g *grouping) add(a api.Agg) int {
	g.aggs = append(g.aggs, a)
	return g.keys + len(g.aggs) - 1
}

// key returns the place of the first key that is the column e, or -1.
func (g *grouping) key(e api.Expr) int {
	return slices.IndexFunc(g.exprs[:g.keys], func(k api.Expr) bool { return k.Int == e.Int })
}

// name returns the name of the column for an item, which has a number.
func name(item api.Item, number int) string {
	switch {
	case item.Name != "":
		return item.Name
	case item.Agg != 0:
		return aggregate(item.Agg)
	case item.Expr.Op == api.OpName:
		return item.Expr.Name[strings.IndexByte(item.Expr.Name, '.')+1:]
	}
	return "column" + strconv.Itoa(number)
}

// aggregate returns the name of the column for an aggregate function.
func aggregate(op int) string {
	switch op {
	case api.AggCount:
		return "count"
	case api.AggSum:
		return "sum"
	case api.AggMin:
		return "min"
	}
	return "max"
}
