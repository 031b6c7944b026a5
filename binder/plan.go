package binder

import "bitemporal/api"

// plan returns a plan over inputs.
func plan(op int, inputs ...api.Plan) api.Plan { return api.Plan{Op: op, Inputs: inputs} }

func scan(input int) api.Plan {
	p := plan(api.PlanScan)
	p.Int = input
	return p
}

func filter(pred api.Expr, input api.Plan) api.Plan {
	p := plan(api.PlanFilter, input)
	p.Pred = pred
	return p
}

func join(left bool, pred api.Expr, first, second api.Plan) api.Plan {
	op := api.PlanJoin
	if left {
		op = api.PlanLeft
	}
	p := plan(op, first, second)
	p.Pred = pred
	return p
}

func project(exprs []api.Expr, input api.Plan) api.Plan {
	p := plan(api.PlanProject, input)
	p.Exprs = exprs
	return p
}

// group returns the plan that groups by the first columns of a plan.
func group(keys int, aggs []api.Agg, input api.Plan) api.Plan {
	p := plan(api.PlanGroup, input)
	for i := range keys {
		p.Keys = append(p.Keys, i)
	}
	p.Aggs = aggs
	return p
}

func distinct(input api.Plan) api.Plan { return plan(api.PlanDistinct, input) }

// combine returns the plan of a combination.
func combine(op int, all bool, first, second api.Plan) api.Plan {
	if op == api.QueryUnion {
		p := plan(api.PlanUnion, first, second)
		if !all {
			p = distinct(p)
		}
		return p
	}
	if !all {
		first, second = distinct(first), distinct(second)
	}
	if op == api.QueryExcept {
		return plan(api.PlanExcept, first, second)
	}
	return plan(api.PlanIntersect, first, second)
}

func depth(p api.Plan) int {
	deepest := 0
	for _, i := range p.Inputs {
		deepest = max(deepest, depth(i))
	}
	return 1 + deepest
}
