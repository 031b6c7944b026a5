package snapshot_test

import (
	"reflect"
	"slices"

	"bitemporal/api"
)

// random returns numbers below n that depend only on the seed.
func random(seed uint64) func(n int) int {
	return func(n int) int {
		seed = seed*6364136223846793005 + 1442695040888963407
		return int(seed >> 33 % uint64(n))
	}
}

func integer(n int) api.Value { return api.Value{Kind: api.KindInt, Int: n} }

func text(s string) api.Value { return api.Value{Kind: api.KindText, Text: s} }

func truth(n int) api.Value { return api.Value{Kind: api.KindBool, Int: n} }

func constant(v api.Value) api.Expr { return api.Expr{Op: api.OpConst, Value: v} }

func column(i int) api.Expr { return api.Expr{Op: api.OpColumn, Int: i} }

func operation(op int, args ...api.Expr) api.Expr { return api.Expr{Op: op, Args: args} }

// A maker makes random bags and plans that Check accepts, unless they are wide or deep.
type maker struct {
	next func(n int) int
	in   [][]int
}

// chance is true once in n times.
func (m *maker) chance(n int) bool { return m.next(n) == 0 }

func (m *maker) kind() int { return api.KindInt + m.next(3) }

func (m *maker) kinds(most int) []int {
	l := make([]int, 1+m.next(most))
	for i := range l {
		l[i] = m.kind()
	}
	return l
}

// value returns one of a few values of a kind, or a null.
func (m *maker) value(kind int) api.Value {
	switch {
	case m.chance(5):
		return api.Value{}
	case kind == api.KindInt && m.chance(8):
		return integer([]int{api.MaxNumber, -api.MaxNumber, api.MaxNumber - 1}[m.next(3)])
	case kind == api.KindInt:
		return integer(m.next(3) - 1)
	case kind == api.KindText:
		return text([]string{"", "x", "y"}[m.next(3)])
	}
	return truth(m.next(2))
}

func (m *maker) rows(kinds []int, most int) [][]api.Value {
	var l [][]api.Value
	for range m.next(most + 1) {
		row := make([]api.Value, len(kinds), len(kinds)+m.next(2))
		for i, k := range kinds {
			row[i] = m.value(k)
		}
		l = append(l, row)
	}
	return l
}

// bags returns bags with the kinds of m.
func (m *maker) bags(most int) []api.Bag {
	var l []api.Bag
	for _, kinds := range m.in {
		l = append(l, api.Bag{Kinds: slices.Clone(kinds), Rows: m.rows(kinds, most)})
	}
	return l
}

// expr returns an expression of a kind over columns of these kinds.
func (m *maker) expr(kinds []int, kind, depth int) api.Expr {
	if depth == 0 || m.chance(4) {
		return m.leaf(kinds, kind)
	}
	arg := func(kind int) api.Expr { return m.expr(kinds, kind, depth-1) }
	switch op := m.next(4); {
	case op == 0 && kind != api.KindBool:
		return operation(api.OpIf, arg(api.KindBool), arg(kind), arg(kind))
	case kind == api.KindInt:
		return operation(api.OpAdd+m.next(5), arg(kind), arg(kind))
	case kind == api.KindText:
		return operation(api.OpConcat, arg(kind), arg(kind))
	case op == 0:
		return operation(api.OpIsNull, arg(m.kind()))
	case op == 1:
		return operation(api.OpAnd+m.next(2), arg(kind), arg(kind))
	}
	k := m.kind()
	return operation(api.OpEq+m.next(6), arg(k), arg(k))
}

// leaf returns a column or a constant of a kind.
func (m *maker) leaf(kinds []int, kind int) api.Expr {
	var l []int
	for i, k := range kinds {
		if k == kind {
			l = append(l, i)
		}
	}
	if len(l) == 0 || m.chance(4) {
		v := m.value(kind)
		if v.Kind == api.KindNull {
			return operation(api.OpIf, constant(v), constant(m.some(kind)), constant(v))
		}
		return constant(v)
	}
	return column(l[m.next(len(l))])
}

// some returns a value of a kind that is not null.
func (m *maker) some(kind int) api.Value {
	for {
		if v := m.value(kind); v.Kind == kind {
			return v
		}
	}
}

// predicate returns a predicate over a first and some further columns, often one with equations of both.
func (m *maker) predicate(first, second []int) api.Expr {
	kinds := slices.Concat(first, second)
	var l []api.Expr
	for m.chance(2) {
		if m.chance(2) {
			l = append(l, m.expr(kinds, api.KindBool, 2))
			continue
		}
		i, j := m.next(len(kinds)), m.next(len(kinds))
		if kinds[i] == kinds[j] {
			l = append(l, operation(api.OpEq, column(i), column(j)))
		}
	}
	switch {
	case len(l) == 0:
		return constant([]api.Value{truth(1), truth(1), truth(0), {}}[m.next(4)])
	case len(l) == 1:
		return l[0]
	}
	return operation(api.OpAnd, l...)
}

// plan returns a plan of at most a depth and the kinds of its result.
func (m *maker) plan(depth int) (api.Plan, []int) {
	if depth == 1 || m.chance(6) {
		if i := m.next(len(m.in) + 1); i < len(m.in) {
			return api.Plan{Op: api.PlanScan, Int: i}, m.in[i]
		}
		kinds := m.kinds(3)
		return m.values(kinds), kinds
	}
	p, kinds := m.plan(depth - 1)
	switch op := api.PlanFilter + m.next(api.PlanGroup-api.PlanFilter+1); op {
	case api.PlanFilter:
		return api.Plan{Op: op, Pred: m.predicate(kinds, nil), Inputs: []api.Plan{p}}, kinds
	case api.PlanProject:
		to := m.kinds(4)
		return m.projection(p, kinds, to), to
	case api.PlanJoin, api.PlanLeft:
		q, its := m.plan(depth - 1)
		return api.Plan{Op: op, Pred: m.predicate(kinds, its), Inputs: []api.Plan{p, q}}, slices.Concat(kinds, its)
	case api.PlanDistinct:
		return api.Plan{Op: op, Inputs: []api.Plan{p}}, kinds
	case api.PlanGroup:
		return m.group(p, kinds)
	default:
		q := m.values(kinds)
		if r, its := m.plan(max(depth-2, 1)); depth > 2 && m.chance(2) {
			q = m.projection(r, its, kinds)
		}
		if m.chance(3) {
			p, q = q, p
		}
		return api.Plan{Op: op, Inputs: []api.Plan{p, q}}, kinds
	}
}

func (m *maker) values(kinds []int) api.Plan {
	return api.Plan{Op: api.PlanValues, Kinds: slices.Clone(kinds), Rows: m.rows(kinds, 3)}
}

// projection returns a projection of p, whose result has the kinds from, to expressions of the kinds to.
func (m *maker) projection(p api.Plan, from, to []int) api.Plan {
	q := api.Plan{Op: api.PlanProject, Inputs: []api.Plan{p}}
	for _, k := range to {
		q.Exprs = append(q.Exprs, m.expr(from, k, 1))
	}
	return q
}

func (m *maker) group(p api.Plan, kinds []int) (api.Plan, []int) {
	q := api.Plan{Op: api.PlanGroup, Inputs: []api.Plan{p}}
	var result []int
	for m.chance(2) {
		q.Keys = append(q.Keys, m.next(len(kinds)))
		result = append(result, kinds[q.Keys[len(q.Keys)-1]])
	}
	for m.next(3) > 0 || len(result) == 0 {
		a := api.Agg{Op: api.AggCount + m.next(4), Arg: m.next(len(kinds)+1) - 1}
		kind := api.KindInt
		switch {
		case a.Arg == -1 || a.Op == api.AggSum && kinds[a.Arg] != api.KindInt:
			a.Op = api.AggCount
		case a.Op == api.AggMin || a.Op == api.AggMax:
			kind = kinds[a.Arg]
		}
		q.Aggs = append(q.Aggs, a)
		result = append(result, kind)
	}
	return q, result
}

// damaged changes something in a plan, which it may also leave as good as it was.
func (m *maker) damaged(p *api.Plan) {
	for len(p.Inputs) > 0 && m.next(3) > 0 {
		p = &p.Inputs[m.next(len(p.Inputs))]
	}
	q, _ := m.plan(1)
	switch m.next(11) {
	case 0:
		p.Op = m.next(14) - 1
	case 1:
		p.Inputs = append(p.Inputs, q)
	case 2:
		if len(p.Inputs) > 0 {
			p.Inputs = p.Inputs[1:]
		}
	case 3:
		p.Int = m.next(9) - 3
	case 4:
		p.Pred = m.expr(m.kinds(6), m.kind(), 2)
	case 5:
		p.Exprs = append(p.Exprs, []api.Expr{{}, constant(api.Value{}), column(m.next(9) - 2), operation(api.OpNot), constant(integer(1))}[m.next(5)])
	case 6:
		p.Keys = append(p.Keys, m.next(9)-2)
	case 7:
		p.Aggs = append(p.Aggs, api.Agg{Op: m.next(7) - 1, Arg: m.next(8) - 2})
	case 8:
		p.Exprs, p.Keys, p.Aggs = nil, nil, nil
	case 9:
		p.Kinds = append(p.Kinds, m.next(6)-1)
	case 10:
		p.Rows = append(p.Rows, m.rows(m.kinds(3), 1)...)
	}
}

// fields calls f with each number, string, flag and list within v, also with those in the spare capacity of lists.
func fields(v reflect.Value, f func(reflect.Value)) {
	switch v.Kind() {
	case reflect.Struct:
		for i := range v.NumField() {
			fields(v.Field(i), f)
		}
	case reflect.Slice:
		f(v)
		whole := v.Slice(0, v.Cap())
		for i := range whole.Len() {
			fields(whole.Index(i), f)
		}
	default:
		f(v)
	}
}

// image returns the lengths of all lists and all numbers and strings within v.
func image(l ...any) []any {
	var all []any
	for _, v := range l {
		fields(reflect.ValueOf(v), func(v reflect.Value) {
			if v.Kind() == reflect.Slice {
				all = append(all, v.Len())
			} else {
				all = append(all, v.Interface())
			}
		})
	}
	return all
}

// sharesMemory reports whether a list of a shares memory, with its spare capacity, with another one of a or one of b.
func sharesMemory(a any, b ...any) bool {
	type area struct {
		from, to uintptr
		mine     bool
	}
	var l []area
	add := func(v any, mine bool) {
		fields(reflect.ValueOf(v), func(v reflect.Value) {
			if v.Kind() == reflect.Slice && v.Cap() > 0 {
				l = append(l, area{v.Pointer(), v.Pointer() + uintptr(v.Cap())*v.Type().Elem().Size(), mine})
			}
		})
	}
	add(a, true)
	for _, v := range b {
		add(v, false)
	}
	slices.SortFunc(l, func(a, b area) int {
		if a.from < b.from {
			return -1
		}
		return 1
	})
	for i := 1; i < len(l); i++ {
		if l[i].from < l[i-1].to && (l[i].mine || l[i-1].mine) {
			return true
		}
	}
	return false
}
