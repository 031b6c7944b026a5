package testkit

import (
	"slices"

	"bitemporal/api"
)

// A Planner makes plans over inputs of the kinds In.
type Planner struct {
	*Maker
	In [][]int
}

// Plan returns a plan of at most a depth, and the kinds of its result. It is valid, unless it is wide or deep.
func (m *Planner) Plan(depth int) (api.Plan, []int) {
	if depth == 1 || m.Chance(6) {
		if i := m.Below(len(m.In) + 1); i < len(m.In) {
			return api.Plan{Op: api.PlanScan, Int: i}, m.In[i]
		}
		kinds := m.Kinds(3)
		return m.values(kinds), kinds
	}
	p, kinds := m.Plan(depth - 1)
	switch op := api.PlanFilter + m.Below(api.PlanGroup-api.PlanFilter+1); op {
	case api.PlanFilter:
		return api.Plan{Op: op, Pred: m.Predicate(kinds, nil), Inputs: []api.Plan{p}}, kinds
	case api.PlanProject:
		to := m.Kinds(4)
		return m.Projection(p, kinds, to), to
	case api.PlanJoin, api.PlanLeft:
		q, its := m.Plan(depth - 1)
		return api.Plan{Op: op, Pred: m.Predicate(kinds, its), Inputs: []api.Plan{p, q}}, slices.Concat(kinds, its)
	case api.PlanDistinct:
		return api.Plan{Op: op, Inputs: []api.Plan{p}}, kinds
	case api.PlanGroup:
		return m.Group(p, kinds)
	default:
		q := m.values(kinds)
		if r, its := m.Plan(max(depth-2, 1)); depth > 2 && m.Chance(2) {
			q = m.Projection(r, its, kinds)
		}
		if m.Chance(3) {
			p, q = q, p
		}
		return api.Plan{Op: op, Inputs: []api.Plan{p, q}}, kinds
	}
}

func (m *Planner) values(kinds []int) api.Plan {
	return api.Plan{Op: api.PlanValues, Kinds: slices.Clone(kinds), Rows: m.Rows(kinds, 3)}
}

// Projection returns a projection of p, whose result has the kinds from, to expressions of the kinds to.
func (m *Planner) Projection(p api.Plan, from, to []int) api.Plan {
	q := api.Plan{Op: api.PlanProject, Inputs: []api.Plan{p}}
	for _, k := range to {
		q.Exprs = append(q.Exprs, m.Expr(from, k, 1))
	}
	return q
}

// Group returns a plan that groups p, whose result has these kinds, and the kinds of its own result.
func (m *Planner) Group(p api.Plan, kinds []int) (api.Plan, []int) {
	q := api.Plan{Op: api.PlanGroup, Inputs: []api.Plan{p}}
	q.Keys, q.Aggs = m.Grouping(kinds)
	var its []int
	for _, k := range q.Keys {
		its = append(its, kinds[k])
	}
	for _, a := range q.Aggs {
		if a.Op == api.AggCount || a.Op == api.AggSum {
			its = append(its, api.KindInt)
		} else {
			its = append(its, kinds[a.Arg])
		}
	}
	return q, its
}

// Damage changes something in a plan, which it may also leave as good as it was.
func (m *Planner) Damage(p *api.Plan) {
	for len(p.Inputs) > 0 && m.Below(3) > 0 {
		p = &p.Inputs[m.Below(len(p.Inputs))]
	}
	q, _ := m.Plan(1)
	switch m.Below(11) {
	case 0:
		p.Op = m.Below(14) - 1
	case 1:
		p.Inputs = append(p.Inputs, q)
	case 2:
		if len(p.Inputs) > 0 {
			p.Inputs = p.Inputs[1:]
		}
	case 3:
		p.Int = m.Below(9) - 3
	case 4:
		p.Pred = m.Expr(m.Kinds(6), m.Kind(), 2)
	case 5:
		p.Exprs = append(p.Exprs, []api.Expr{{}, Constant(api.Value{}), Column(m.Below(9) - 2), Operation(api.OpNot), Constant(api.Value{Kind: api.KindInt, Int: 1})}[m.Below(5)])
	case 6:
		p.Keys = append(p.Keys, m.Below(9)-2)
	case 7:
		p.Aggs = append(p.Aggs, api.Agg{Op: m.Below(7) - 1, Arg: m.Below(8) - 2})
	case 8:
		p.Exprs, p.Keys, p.Aggs = nil, nil, nil
	case 9:
		p.Kinds = append(p.Kinds, m.Below(6)-1)
	case 10:
		p.Rows = append(p.Rows, m.Rows(m.Kinds(3), 1)...)
	}
}

// MostRows returns an upper limit of the number of rows of the result of a plan over inputs with so many rows.
func MostRows(p api.Plan, in []int) int {
	var l []int
	for _, q := range p.Inputs {
		l = append(l, MostRows(q, in))
	}
	switch {
	case p.Op == api.PlanScan && p.Int >= 0 && p.Int < len(in):
		return in[p.Int]
	case p.Op == api.PlanGroup && len(l) == 1:
		return max(l[0], 1)
	case len(l) == 1:
		return l[0]
	case p.Op == api.PlanUnion && len(l) == 2:
		return l[0] + l[1]
	case (p.Op == api.PlanJoin || p.Op == api.PlanLeft) && len(l) == 2:
		return l[0] * max(l[1], 1)
	case len(l) > 0:
		return l[0]
	}
	return len(p.Rows)
}

// A Census counts the plans of a test by their errors, and the nodes of those without one by their operators.
type Census struct {
	errors    map[api.Errno]int
	operators map[int]int
}

// NewCensus returns a census without plans.
func NewCensus() *Census { return &Census{map[api.Errno]int{}, map[int]int{}} }

// Add counts a plan.
func (c *Census) Add(p api.Plan, err api.Errno) {
	c.errors[err]++
	if err == api.OK {
		c.addNodes(p)
	}
}

func (c *Census) addNodes(p api.Plan) {
	c.operators[p.Op]++
	for _, q := range p.Inputs {
		c.addNodes(q)
	}
}

// Check reports an error if few plans have one of some errors, or few nodes one of the operators.
func (c *Census) Check(t Test, errors ...api.Errno) {
	t.Helper()
	for _, err := range errors {
		if c.errors[err] < 50 {
			t.Errorf("too few plans with the error %d: %v", err, c.errors)
		}
	}
	for op := api.PlanScan; op <= api.PlanGroup; op++ {
		if c.operators[op] < 300 {
			t.Errorf("too few nodes with the operator %d: %v", op, c.operators)
		}
	}
}
