package snapshot_test

import (
	"reflect"
	"slices"

	"bitemporal/api"
	"bitemporal/testkit"
)

func integer(n int) api.Value { return api.Value{Kind: api.KindInt, Int: n} }

func text(s string) api.Value { return api.Value{Kind: api.KindText, Text: s} }

func truth(n int) api.Value { return api.Value{Kind: api.KindBool, Int: n} }

func constant(v api.Value) api.Expr { return testkit.Constant(v) }

func column(i int) api.Expr { return testkit.Column(i) }

func operation(op int, args ...api.Expr) api.Expr { return testkit.Operation(op, args...) }

// A maker makes random bags and plans that Check accepts, unless they are wide or deep.
type maker struct {
	*testkit.Maker
	in [][]int
}

// bags returns bags with the kinds of m.
func (m *maker) bags(most int) []api.Bag {
	var l []api.Bag
	for _, kinds := range m.in {
		l = append(l, api.Bag{Kinds: slices.Clone(kinds), Rows: m.Rows(kinds, most)})
	}
	return l
}

// plan returns a plan of at most a depth and the kinds of its result.
func (m *maker) plan(depth int) (api.Plan, []int) {
	if depth == 1 || m.Chance(6) {
		if i := m.Below(len(m.in) + 1); i < len(m.in) {
			return api.Plan{Op: api.PlanScan, Int: i}, m.in[i]
		}
		kinds := m.Kinds(3)
		return m.values(kinds), kinds
	}
	p, kinds := m.plan(depth - 1)
	switch op := api.PlanFilter + m.Below(api.PlanGroup-api.PlanFilter+1); op {
	case api.PlanFilter:
		return api.Plan{Op: op, Pred: m.Predicate(kinds, nil), Inputs: []api.Plan{p}}, kinds
	case api.PlanProject:
		to := m.Kinds(4)
		return m.projection(p, kinds, to), to
	case api.PlanJoin, api.PlanLeft:
		q, its := m.plan(depth - 1)
		return api.Plan{Op: op, Pred: m.Predicate(kinds, its), Inputs: []api.Plan{p, q}}, slices.Concat(kinds, its)
	case api.PlanDistinct:
		return api.Plan{Op: op, Inputs: []api.Plan{p}}, kinds
	case api.PlanGroup:
		return m.group(p, kinds)
	default:
		q := m.values(kinds)
		if r, its := m.plan(max(depth-2, 1)); depth > 2 && m.Chance(2) {
			q = m.projection(r, its, kinds)
		}
		if m.Chance(3) {
			p, q = q, p
		}
		return api.Plan{Op: op, Inputs: []api.Plan{p, q}}, kinds
	}
}

func (m *maker) values(kinds []int) api.Plan {
	return api.Plan{Op: api.PlanValues, Kinds: slices.Clone(kinds), Rows: m.Rows(kinds, 3)}
}

// projection returns a projection of p, whose result has the kinds from, to expressions of the kinds to.
func (m *maker) projection(p api.Plan, from, to []int) api.Plan {
	q := api.Plan{Op: api.PlanProject, Inputs: []api.Plan{p}}
	for _, k := range to {
		q.Exprs = append(q.Exprs, m.Expr(from, k, 1))
	}
	return q
}

func (m *maker) group(p api.Plan, kinds []int) (api.Plan, []int) {
	q := api.Plan{Op: api.PlanGroup, Inputs: []api.Plan{p}}
	q.Keys, q.Aggs = m.Grouping(kinds)
	return q, grouped(q, kinds)
}

// damaged changes something in a plan, which it may also leave as good as it was.
func (m *maker) damaged(p *api.Plan) {
	for len(p.Inputs) > 0 && m.Below(3) > 0 {
		p = &p.Inputs[m.Below(len(p.Inputs))]
	}
	q, _ := m.plan(1)
	switch m.Below(11) {
	case 0:
		p.Op = m.Below(14) - 1
	case 1:
		p.Inputs = append(p.Inputs, q)
	case 2:
		if len(p.Inputs) > 0 {
			p.Inputs = p.Inputs[1:]
		}
	case 3:
		p.Int = m.Below(9) - 3
	case 4:
		p.Pred = m.Expr(m.Kinds(6), m.Kind(), 2)
	case 5:
		p.Exprs = append(p.Exprs, []api.Expr{{}, constant(api.Value{}), column(m.Below(9) - 2), operation(api.OpNot), constant(integer(1))}[m.Below(5)])
	case 6:
		p.Keys = append(p.Keys, m.Below(9)-2)
	case 7:
		p.Aggs = append(p.Aggs, api.Agg{Op: m.Below(7) - 1, Arg: m.Below(8) - 2})
	case 8:
		p.Exprs, p.Keys, p.Aggs = nil, nil, nil
	case 9:
		p.Kinds = append(p.Kinds, m.Below(6)-1)
	case 10:
		p.Rows = append(p.Rows, m.Rows(m.Kinds(3), 1)...)
	}
}

// fields calls f with each number, string, flag and list within v, also with those in the spare capacity of lists.
func fields(v reflect.Value, f func(reflect.Value)) {
	switch v.Kind() {
	case reflect.Struct:
		for i := range v.NumField() {
			fields(v.Field(i), f)
		}
	case reflect.Slice:
		f(v)
		whole := v.Slice(0, v.Cap())
		for i := range whole.Len() {
			fields(whole.Index(i), f)
		}
	default:
		f(v)
	}
}

// image returns the lengths of all lists and all numbers and strings within v.
func image(l ...any) []any {
	var all []any
	for _, v := range l {
		fields(reflect.ValueOf(v), func(v reflect.Value) {
			if v.Kind() == reflect.Slice {
				all = append(all, v.Len())
			} else {
				all = append(all, v.Interface())
			}
		})
	}
	return all
}

// sharesMemory reports whether a list of a shares memory, with its spare capacity, with another one of a or one of b.
func sharesMemory(a any, b ...any) bool {
	type area struct {
		from, to uintptr
		mine     bool
	}
	var l []area
	add := func(v any, mine bool) {
		fields(reflect.ValueOf(v), func(v reflect.Value) {
			if v.Kind() == reflect.Slice && v.Cap() > 0 {
				l = append(l, area{v.Pointer(), v.Pointer() + uintptr(v.Cap())*v.Type().Elem().Size(), mine})
			}
		})
	}
	add(a, true)
	for _, v := range b {
		add(v, false)
	}
	slices.SortFunc(l, func(a, b area) int {
		if a.from < b.from {
			return -1
		}
		return 1
	})
	for i := 1; i < len(l); i++ {
		if l[i].from < l[i-1].to && (l[i].mine || l[i-1].mine) {
			return true
		}
	}
	return false
}
