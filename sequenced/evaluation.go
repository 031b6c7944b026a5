package sequenced

import (
	"bitemporal/aggregate"
	"bitemporal/api"
	"bitemporal/coalesce"
	"bitemporal/project"
	"bitemporal/setop"
	"bitemporal/tjoin"
)

// An evaluation is that of plans over some relations during a period. What it returns is right during the period and arbitrary at other instants, and need not be in canonical form.
type evaluation struct {
	in     []api.Relation
	during api.Period
	// most is the greatest number of times that a canonical form contains a row at an instant. The results of operations that could contain it more often are put together from those for parts.
	most int
}

// mostAtOnce is the number most for steps.Levels.
const mostAtOnce = 1 << 20

// An operator evaluates a node of a plan; a and b are the results of its inputs.
type operator struct {
	evaluate func(v evaluation, p api.Plan, a, b api.Relation) api.Relation
}

// operators returns the operators by their numbers in plans.
func operators() [api.PlanGroup + 1]operator {
	return [...]operator{
		api.PlanScan:      {evaluation.scan},
		api.PlanValues:    {evaluation.values},
		api.PlanFilter:    {evaluation.filter},
		api.PlanProject:   {evaluation.project},
		api.PlanJoin:      {evaluation.join},
		api.PlanLeft:      {evaluation.left},
		api.PlanUnion:     {evaluation.union},
		api.PlanExcept:    {evaluation.except},
		api.PlanIntersect: {evaluation.intersect},
		api.PlanDistinct:  {evaluation.distinct},
		api.PlanGroup:     {evaluation.group},
	}
}

// result returns the result of a plan that snapshot.Check accepts. It may share memory with the plan.
func (v evaluation) result(p api.Plan) api.Relation {
	var inputs [2]api.Relation
	for i, q := range p.Inputs {
		inputs[i] = v.result(q)
	}
	return operators()[p.Op].evaluate(v, p, inputs[0], inputs[1])
}

func (v evaluation) scan(p api.Plan, _, _ api.Relation) api.Relation {
	return inParts(v.in[p.Int], v.most, func(r api.Relation) api.Relation {
		return api.Relation{Kinds: r.Kinds, Facts: coalesce.Restrict(r.Facts, v.during)}
	})
}

func (v evaluation) values(p api.Plan, _, _ api.Relation) api.Relation {
	facts := make([]api.Fact, len(p.Rows))
	for i, row := range p.Rows {
		facts[i] = api.Fact{Row: row, Valid: v.during}
	}
	return api.Relation{Kinds: p.Kinds, Facts: facts}
}

func (v evaluation) filter(p api.Plan, a, _ api.Relation) api.Relation {
	return inParts(a, v.most, func(a api.Relation) api.Relation { return project.Filter(a, p.Pred) })
}

func (v evaluation) project(p api.Plan, a, _ api.Relation) api.Relation {
	return inParts(a, v.most, func(a api.Relation) api.Relation { return project.Project(a, p.Exprs) })
}

func (v evaluation) join(p api.Plan, a, b api.Relation) api.Relation {
	return inParts(b, v.most, func(b api.Relation) api.Relation {
		return inParts(a, v.most/multiplicity(b.Facts), func(a api.Relation) api.Relation { return tjoin.Join(a, b, p.Pred) })
	})
}

func (v evaluation) left(p api.Plan, a, b api.Relation) api.Relation {
	if len(b.Facts) <= v.most {
		return inParts(a, v.most/multiplicity(b.Facts), func(a api.Relation) api.Relation { return tjoin.Left(a, b, p.Pred) })
	}
	// A row without a partner in one part of b may have one in another.
	none := api.Relation{Kinds: b.Kinds}
	alone := inParts(a, v.most, func(a api.Relation) api.Relation {
		return tjoin.Left(tjoin.Anti(a, b, p.Pred), none, p.Pred)
	})
	return together(v.join(p, a, b), alone)
}

func (v evaluation) union(_ api.Plan, a, b api.Relation) api.Relation { return together(a, b) }

func (v evaluation) except(_ api.Plan, a, b api.Relation) api.Relation {
	return against(a, b, v.most, setop.Except)
}

func (v evaluation) intersect(_ api.Plan, a, b api.Relation) api.Relation {
	return against(a, b, v.most, setop.Intersect)
}

func (v evaluation) distinct(_ api.Plan, a, _ api.Relation) api.Relation { return setop.Distinct(a) }

func (v evaluation) group(p api.Plan, a, _ api.Relation) api.Relation {
	return aggregate.Group(a, p.Keys, p.Aggs)
}
