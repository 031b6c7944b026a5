package snapshot_test

import (
	"math/big"
	"slices"

	"bitemporal/api"
	"bitemporal/expr"
	"bitemporal/tuple"
	"bitemporal/value"
)

// tried returns what f returns, or the error with which it panics.
func tried[T any](f func() T) (result T, err api.Errno) {
	defer func() {
		if e := recover(); e != nil {
			err = e.(api.Errno)
		}
	}()
	return f(), api.OK
}

// demand panics with an error unless something is so.
func demand(isSo bool, err api.Errno) {
	if !isSo {
		panic(err)
	}
}

func depthOf(p api.Plan) int {
	deepest := 0
	for _, q := range p.Inputs {
		deepest = max(deepest, depthOf(q))
	}
	return deepest + 1
}

// checked returns what Check must return.
func checked(p api.Plan, in [][]int) ([]int, api.Errno) {
	return tried(func() []int {
		demand(depthOf(p) <= 24, api.ErrDepth)
		return kindsOf(p, in)
	})
}

// arity tells the number of inputs of each operator.
var arity = map[int]int{
	api.PlanScan: 0, api.PlanValues: 0, api.PlanFilter: 1, api.PlanProject: 1, api.PlanDistinct: 1, api.PlanGroup: 1,
	api.PlanJoin: 2, api.PlanLeft: 2, api.PlanUnion: 2, api.PlanExcept: 2, api.PlanIntersect: 2,
}

func kindsOf(p api.Plan, in [][]int) []int {
	n, known := arity[p.Op]
	demand(known, api.ErrKind)
	demand(len(p.Inputs) == n, api.ErrInvalid)
	var kinds []int
	var sides [][]int
	for _, q := range p.Inputs {
		sides = append(sides, kindsOf(q, in))
		kinds = append(kinds, sides[len(sides)-1]...)
	}
	expression := func(e api.Expr) int {
		kind, err := expr.Check(e, kinds)
		demand(err == api.OK, err)
		return kind
	}
	switch p.Op {
	case api.PlanScan:
		demand(p.Int >= 0 && p.Int < len(in), api.ErrRange)
		kinds = in[p.Int]
		demandKinds(kinds)
	case api.PlanValues:
		demand(len(p.Rows) <= 4096, api.ErrTooLong)
		kinds = p.Kinds
		demandKinds(kinds)
		for _, row := range p.Rows {
			demand(tuple.Fits(row, kinds), api.ErrInvalid)
		}
	case api.PlanFilter, api.PlanJoin, api.PlanLeft:
		kind := expression(p.Pred)
		demand(kind != api.KindInt && kind != api.KindText, api.ErrKind)
	case api.PlanProject:
		var l []int
		for _, e := range p.Exprs {
			kind := expression(e)
			demand(kind != api.KindNull, api.ErrKind)
			l = append(l, kind)
		}
		kinds = l
	case api.PlanUnion, api.PlanExcept, api.PlanIntersect:
		demand(len(sides[0]) == len(sides[1]), api.ErrColumns)
		demand(slices.Equal(sides[0], sides[1]), api.ErrKind)
		kinds = sides[0]
	case api.PlanGroup:
		kinds = grouped(p, kinds)
	}
	demand(len(kinds) >= 1 && len(kinds) <= 48, api.ErrColumns)
	return kinds
}

func demandKinds(kinds []int) {
	for _, k := range kinds {
		demand(slices.Contains([]int{api.KindInt, api.KindText, api.KindBool}, k), api.ErrKind)
	}
}

func grouped(p api.Plan, kinds []int) []int {
	var l []int
	for _, k := range p.Keys {
		demand(k >= 0 && k < len(kinds), api.ErrRange)
		l = append(l, kinds[k])
	}
	for _, a := range p.Aggs {
		demand(slices.Contains([]int{api.AggCount, api.AggSum, api.AggMin, api.AggMax}, a.Op), api.ErrKind)
		demand(a.Arg >= 0 && a.Arg < len(kinds) || a.Arg == -1 && a.Op == api.AggCount, api.ErrRange)
		demand(a.Op != api.AggSum || kinds[a.Arg] == api.KindInt, api.ErrKind)
		switch a.Op {
		case api.AggCount, api.AggSum:
			l = append(l, api.KindInt)
		default:
			l = append(l, kinds[a.Arg])
		}
	}
	return l
}

// occurs returns how often a row occurs in a list.
func occurs(row []api.Value, l [][]api.Value) int {
	n := 0
	for _, r := range l {
		if slices.Equal(r, row) {
			n++
		}
	}
	return n
}

// combined returns the rows of two lists, each as often as f of its numbers of times in both says.
func combined(a, b [][]api.Value, f func(m, n int) int) [][]api.Value {
	var l [][]api.Value
	for _, row := range slices.Concat(a, b) {
		if occurs(row, l) == 0 {
			for range f(occurs(row, a), occurs(row, b)) {
				l = append(l, row)
			}
		}
	}
	return l
}

// result returns the rows of the result of a plan that Check accepts, in any order.
func result(p api.Plan, in []api.Bag) [][]api.Value {
	var l [][]api.Value
	var a, b [][]api.Value
	if len(p.Inputs) > 0 {
		a = result(p.Inputs[0], in)
	}
	if len(p.Inputs) > 1 {
		b = result(p.Inputs[1], in)
	}
	switch p.Op {
	case api.PlanScan:
		return in[p.Int].Rows
	case api.PlanValues:
		return p.Rows
	case api.PlanFilter:
		for _, row := range a {
			if expr.Eval(p.Pred, row) == value.Bool(true) {
				l = append(l, row)
			}
		}
	case api.PlanProject:
		for _, row := range a {
			var r []api.Value
			for _, e := range p.Exprs {
				r = append(r, expr.Eval(e, row))
			}
			l = append(l, r)
		}
	case api.PlanJoin, api.PlanLeft:
		return joined(p, a, b, in)
	case api.PlanUnion:
		return combined(a, b, func(m, n int) int { return m + n })
	case api.PlanExcept:
		return combined(a, b, func(m, n int) int { return max(m-n, 0) })
	case api.PlanIntersect:
		return combined(a, b, func(m, n int) int { return min(m, n) })
	case api.PlanDistinct:
		return combined(a, nil, func(m, _ int) int { return 1 })
	case api.PlanGroup:
		return groups(p, a)
	}
	return l
}

func joined(p api.Plan, a, b [][]api.Value, in []api.Bag) [][]api.Value {
	var l [][]api.Value
	var kinds [][]int
	for _, i := range in {
		kinds = append(kinds, i.Kinds)
	}
	for _, x := range a {
		partners := 0
		for _, y := range b {
			if row := slices.Concat(x, y); expr.Eval(p.Pred, row) == value.Bool(true) {
				l = append(l, row)
				partners++
			}
		}
		if p.Op == api.PlanLeft && partners == 0 {
			l = append(l, slices.Concat(x, make([]api.Value, len(kindsOf(p.Inputs[1], kinds)))))
		}
	}
	return l
}

func groups(p api.Plan, rows [][]api.Value) [][]api.Value {
	var keys, l [][]api.Value
	if len(p.Keys) == 0 {
		keys = append(keys, nil)
	}
	keyOf := func(row []api.Value) []api.Value {
		var key []api.Value
		for _, k := range p.Keys {
			key = append(key, row[k])
		}
		return key
	}
	for _, row := range rows {
		if occurs(keyOf(row), keys) == 0 {
			keys = append(keys, keyOf(row))
		}
	}
	for _, key := range keys {
		own := slices.DeleteFunc(slices.Clone(rows), func(row []api.Value) bool { return !slices.Equal(keyOf(row), key) })
		row := slices.Clone(key)
		for _, a := range p.Aggs {
			row = append(row, aggregated(a, own))
		}
		l = append(l, row)
	}
	return l
}

func aggregated(a api.Agg, rows [][]api.Value) api.Value {
	if a.Arg == -1 {
		return integer(len(rows))
	}
	n, sum := 0, new(big.Int)
	var least, greatest api.Value
	for _, row := range rows {
		v := row[a.Arg]
		if v.Kind == api.KindNull {
			continue
		}
		n++
		sum.Add(sum, big.NewInt(int64(v.Int)))
		if n == 1 || value.Compare(v, least) < 0 {
			least = v
		}
		if n == 1 || value.Compare(v, greatest) > 0 {
			greatest = v
		}
	}
	switch a.Op {
	case api.AggCount:
		return integer(n)
	case api.AggMin:
		return least
	case api.AggMax:
		return greatest
	}
	if n == 0 || new(big.Int).Abs(sum).Cmp(big.NewInt(1<<50)) > 0 {
		return api.Value{}
	}
	return integer(int(sum.Int64()))
}
