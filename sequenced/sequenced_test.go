package sequenced_test

import (
	"math"
	"slices"
	"testing"

	"bitemporal/api"
	"bitemporal/coalesce"
	"bitemporal/sequenced"
	"bitemporal/testkit"
	"bitemporal/value"
)

const (
	forever = api.Forever
	kInt    = api.KindInt
	kText   = api.KindText
)

func fact(from, to int, row ...any) api.Fact { return testkit.Fact(from, to, row...) }

func facts(l ...api.Fact) []api.Fact { return l }

func column(i int) api.Expr { return testkit.Column(i) }

func number(n int) api.Expr { return testkit.Constant(value.Int(n)) }

func scan(i int) api.Plan { return api.Plan{Op: api.PlanScan, Int: i} }

func values(l ...int) api.Plan {
	p := api.Plan{Op: api.PlanValues, Kinds: []int{kInt}}
	for _, n := range l {
		p.Rows = append(p.Rows, []api.Value{value.Int(n)})
	}
	return p
}

// node returns the node p with an operator and some inputs.
func node(op int, p api.Plan, inputs ...api.Plan) api.Plan {
	p.Op, p.Inputs = op, inputs
	return p
}

// count returns a plan that counts the rows of another one.
func count(p api.Plan) api.Plan {
	return node(api.PlanGroup, api.Plan{Aggs: []api.Agg{{Op: api.AggCount, Arg: -1}}}, p)
}

// equal is the predicate that the columns i and j are equal.
func equal(i, j int) api.Plan {
	return api.Plan{Pred: testkit.Operation(api.OpEq, column(i), column(j))}
}

// inputs returns the relations of the chapter's examples, one with texts, and one without facts.
func inputs() []api.Relation {
	return []api.Relation{
		testkit.Numbers(1, fact(0, 6, 1), fact(4, 9, 1)),
		testkit.Numbers(1, fact(5, 7, 1)),
		{Kinds: []int{kInt, kText}, Facts: facts(fact(8, forever, 2, "y"), fact(2, 6, 1, "x"), fact(4, 8, 2, "y"), fact(3, 5, nil, "x"), fact(6, 7, 1, "x"))},
		testkit.Numbers(2),
	}
}

func TestRun(t *testing.T) {
	a, b, c, none := scan(0), scan(1), scan(2), scan(3)
	one, two := []int{kInt}, []int{kInt, kText}
	group := func(p api.Plan, keys []int, l ...api.Agg) api.Plan {
		return node(api.PlanGroup, api.Plan{Keys: keys, Aggs: l}, p)
	}
	sum := api.Agg{Op: api.AggSum}
	late := api.Plan{Pred: testkit.Operation(api.OpGt, column(0), number(1))}
	for _, x := range []struct {
		name  string
		p     api.Plan
		kinds []int
		want  []api.Fact
	}{
		{"a scan", a, one, facts(fact(0, 9, 1), fact(4, 6, 1))},
		{"a scan of several rows", c, two, facts(fact(3, 5, nil, "x"), fact(2, 7, 1, "x"), fact(4, forever, 2, "y"))},
		{"a scan of nothing", none, []int{kInt, kInt}, nil},
		{"values", values(3, 1, 3), one, facts(fact(0, forever, 1), fact(0, forever, 3), fact(0, forever, 3))},
		{"no values", values(), one, nil},
		{"a filter", node(api.PlanFilter, late, c), two, facts(fact(4, forever, 2, "y"))},
		{"a filter by NULL", node(api.PlanFilter, api.Plan{Pred: testkit.Constant(value.Null())}, c), two, nil},
		{"a projection", node(api.PlanProject, api.Plan{Exprs: []api.Expr{column(1), column(0), number(7)}}, c), []int{kText, kInt, kInt}, facts(fact(3, 5, "x", nil, 7), fact(2, 7, "x", 1, 7), fact(4, forever, "y", 2, 7))},
		{"a projection to equal rows", node(api.PlanProject, api.Plan{Exprs: []api.Expr{number(7)}}, c), one, facts(fact(2, forever, 7), fact(3, 7, 7), fact(4, 5, 7))},
		{"a join", node(api.PlanJoin, equal(0, 1), a, b), []int{kInt, kInt}, facts(fact(5, 6, 1, 1), fact(5, 7, 1, 1))},
		{"a join in the other order", node(api.PlanJoin, equal(0, 2), c, a), []int{kInt, kText, kInt}, facts(fact(2, 7, 1, "x", 1), fact(4, 6, 1, "x", 1))},
		{"a join without partners", node(api.PlanJoin, api.Plan{Pred: testkit.Operation(api.OpNe, column(0), column(1))}, a, b), []int{kInt, kInt}, nil},
		{"a left join", node(api.PlanLeft, equal(0, 1), a, b), []int{kInt, kInt}, facts(fact(0, 5, 1, nil), fact(4, 5, 1, nil), fact(7, 9, 1, nil), fact(5, 6, 1, 1), fact(5, 7, 1, 1))},
		{"a left join with nothing", node(api.PlanLeft, equal(0, 2), c, none), []int{kInt, kText, kInt, kInt}, facts(fact(3, 5, nil, "x", nil, nil), fact(2, 7, 1, "x", nil, nil), fact(4, forever, 2, "y", nil, nil))},
		{"a left join of nothing", node(api.PlanLeft, equal(0, 2), none, a), []int{kInt, kInt, kInt}, nil},
		{"a union", node(api.PlanUnion, api.Plan{}, a, b), one, facts(fact(0, 9, 1), fact(4, 7, 1), fact(5, 6, 1))},
		{"a union with itself", node(api.PlanUnion, api.Plan{}, a, a), one, facts(fact(0, 9, 1), fact(0, 9, 1), fact(4, 6, 1), fact(4, 6, 1))},
		{"a difference", node(api.PlanExcept, api.Plan{}, a, b), one, facts(fact(0, 6, 1), fact(4, 5, 1), fact(7, 9, 1))},
		{"a difference in the other order", node(api.PlanExcept, api.Plan{}, b, a), one, nil},
		{"a difference from values", node(api.PlanExcept, api.Plan{}, values(1), a), one, facts(fact(9, forever, 1))},
		{"an intersection", node(api.PlanIntersect, api.Plan{}, a, b), one, facts(fact(5, 7, 1))},
		{"an intersection with values", node(api.PlanIntersect, api.Plan{}, values(1, 1, 2), a), one, facts(fact(0, 9, 1), fact(4, 6, 1))},
		{"distinct rows", node(api.PlanDistinct, api.Plan{}, a), one, facts(fact(0, 9, 1))},
		{"a count", count(a), one, facts(fact(9, forever, 0), fact(0, 4, 1), fact(6, 9, 1), fact(4, 6, 2))},
		{"a count of nothing", count(none), one, facts(fact(0, forever, 0))},
		{"a sum of nothing", group(none, nil, sum), one, facts(fact(0, forever, nil))},
		{"groups", group(c, []int{1}, api.Agg{Op: api.AggCount, Arg: 0}, sum), []int{kText, kInt, kInt}, facts(fact(2, 7, "x", 1, 1), fact(4, forever, "y", 1, 2))},
		{"groups of nothing", group(none, []int{1}, sum), []int{kInt, kInt}, nil},
		{"a count of a count", count(count(a)), one, facts(fact(0, forever, 1))},
		{"a join with a count", node(api.PlanJoin, equal(0, 1), a, count(b)), []int{kInt, kInt}, facts(fact(5, 6, 1, 1), fact(5, 7, 1, 1))},
		{"what a count leaves of values", node(api.PlanExcept, api.Plan{}, values(0, 1, 2), count(a)), one, facts(fact(0, 9, 0), fact(4, 6, 1), fact(9, forever, 1), fact(0, 4, 2), fact(6, forever, 2))},
	} {
		got, err := sequenced.Run(x.p, inputs())
		if err != api.OK {
			t.Errorf("%s: error %d", x.name, err)
		}
		testkit.Want(t, x.name, got, x.kinds, x.want)
	}
}

func TestOver(t *testing.T) {
	a, c := scan(0), scan(2)
	for _, x := range []struct {
		name     string
		p        api.Plan
		from, to int
		want     []api.Fact
	}{
		{"a count", count(a), 5, 7, facts(fact(6, 7, 1), fact(5, 6, 2))},
		{"a count at the first instant", count(a), 0, 1, facts(fact(0, 1, 1))},
		{"a count at the last instant", count(a), forever - 1, forever, facts(fact(forever-1, forever, 0))},
		{"a count at every instant", count(a), 0, forever, facts(fact(9, forever, 0), fact(0, 4, 1), fact(6, 9, 1), fact(4, 6, 2))},
		{"a scan", a, 3, 5, facts(fact(3, 5, 1), fact(4, 5, 1))},
		{"a scan of what is not valid", a, 9, 12, nil},
		{"a scan of several rows", c, 5, 9, facts(fact(5, 7, 1, "x"), fact(5, 9, 2, "y"))},
		{"values", values(3, 1), 7, 9, facts(fact(7, 9, 1), fact(7, 9, 3))},
		{"a left join", node(api.PlanLeft, equal(0, 1), a, scan(1)), 4, 6, facts(fact(4, 5, 1, nil), fact(4, 5, 1, nil), fact(5, 6, 1, 1), fact(5, 6, 1, 1))},
		{"a difference", node(api.PlanExcept, api.Plan{}, values(1), a), 2, 11, facts(fact(9, 11, 1))},
		{"a union of counts", node(api.PlanUnion, api.Plan{}, count(a), count(scan(3))), 8, 10, facts(fact(8, 10, 0), fact(9, 10, 0), fact(8, 9, 1))},
	} {
		got, err := sequenced.Over(x.p, inputs(), api.Period{From: x.from, To: x.to})
		if err != api.OK {
			t.Errorf("%s: error %d", x.name, err)
		}
		testkit.Want(t, x.name, got, got.Kinds, x.want)
	}
	if got, _ := sequenced.Over(c, inputs(), api.Period{From: 5, To: 9}); !slices.Equal(got.Kinds, []int{kInt, kText}) {
		t.Error("the kinds are", got.Kinds)
	}
}

func TestAt(t *testing.T) {
	a, c := scan(0), scan(2)
	for _, x := range []struct {
		name string
		p    api.Plan
		at   int
		want []api.Fact
	}{
		{"a count at 4", count(a), 4, facts(fact(0, 1, 2))},
		{"a count at 3", count(a), 3, facts(fact(0, 1, 1))},
		{"a count at the last instant", count(a), forever - 1, facts(fact(0, 1, 0))},
		{"a scan at 0", a, 0, facts(fact(0, 1, 1))},
		{"a scan at 5", a, 5, facts(fact(0, 1, 1), fact(0, 1, 1))},
		{"a scan at 9", a, 9, nil},
		{"several rows", c, 4, facts(fact(0, 1, nil, "x"), fact(0, 1, 1, "x"), fact(0, 1, 2, "y"))},
		{"rows at the last instant", c, forever - 1, facts(fact(0, 1, 2, "y"))},
		{"values", values(3, 1, 3), forever - 1, facts(fact(0, 1, 1), fact(0, 1, 3), fact(0, 1, 3))},
	} {
		got, err := sequenced.At(x.p, inputs(), x.at)
		want := coalesce.At(x.want, 0)
		if err != api.OK || !slices.EqualFunc(got.Rows, want, slices.Equal) {
			t.Errorf("%s: %v, %d; want %v", x.name, got, err, want)
		}
	}
	if got, _ := sequenced.At(c, inputs(), 4); !slices.Equal(got.Kinds, []int{kInt, kText}) {
		t.Error("the kinds are", got.Kinds)
	}
}

func TestChanges(t *testing.T) {
	in := append(inputs(), testkit.Numbers(1, fact(0, 4, 1), fact(4, 8, 1), fact(4, 8, 2), fact(6, 8, 2), fact(8, forever-1, 2), fact(6, 9, 3), fact(9, forever, 3), fact(1, 2, 5), fact(0, 1, 5)))
	a := scan(0)
	for _, x := range []struct {
		name string
		p    api.Plan
		want []int
	}{
		{"a count", count(a), []int{4, 6, 9}},
		{"a scan", a, []int{4, 6, 9}},
		{"a scan with facts that others continue", scan(4), []int{2, 4, 6, 8, forever - 1}},
		{"nothing", scan(3), nil},
		{"values", values(1, 2), nil},
		{"distinct rows", node(api.PlanDistinct, api.Plan{}, a), []int{9}},
		{"a count of a count", count(count(a)), nil},
		{"a union of counts that change at once", node(api.PlanUnion, api.Plan{}, count(a), node(api.PlanExcept, api.Plan{}, values(0, 1, 2), count(a))), nil},
		{"a row that begins at 0 and ends at the last instant", node(api.PlanFilter, api.Plan{Pred: testkit.Operation(api.OpEq, column(0), number(2))}, scan(4)), []int{4, 6, 8, forever - 1}},
	} {
		if got, err := sequenced.Changes(x.p, in); err != api.OK || !slices.Equal(got, x.want) {
			t.Errorf("%s: %v, %d; want %v", x.name, got, err, x.want)
		}
	}
}

// deep returns a plan of a depth.
func deep(depth int) api.Plan {
	p := scan(0)
	for range depth - 1 {
		p = node(api.PlanDistinct, api.Plan{}, p)
	}
	return p
}

// wrong returns the error of each function for a plan, over a period and at an instant, and whether there was another result.
func wrong(p api.Plan, in []api.Relation, during api.Period, at int) (errors [4]api.Errno, isMore bool) {
	run, e0 := sequenced.Run(p, in)
	over, e1 := sequenced.Over(p, in, during)
	bag, e2 := sequenced.At(p, in, at)
	changes, e3 := sequenced.Changes(p, in)
	isMore = e0 != api.OK && (run.Kinds != nil || run.Facts != nil) || e1 != api.OK && (over.Kinds != nil || over.Facts != nil)
	return [4]api.Errno{e0, e1, e2, e3}, isMore || e2 != api.OK && (bag.Kinds != nil || bag.Rows != nil) || e3 != api.OK && changes != nil
}

func TestErrorsOfPlans(t *testing.T) {
	wide := func(n int) api.Relation { return api.Relation{Kinds: slices.Repeat([]int{kInt}, n)} }
	in := append(inputs(), wide(48), wide(49), api.Relation{Kinds: []int{9}}, api.Relation{})
	a := scan(0)
	bad := api.Plan{Pred: column(0)}
	for _, x := range []struct {
		name string
		p    api.Plan
		want api.Errno
	}{
		{"no operator", api.Plan{}, api.ErrKind},
		{"an unknown operator", node(api.PlanGroup+1, api.Plan{}, a), api.ErrKind},
		{"a negative operator", node(-1, api.Plan{}, a), api.ErrKind},
		{"no input", node(api.PlanDistinct, api.Plan{}), api.ErrInvalid},
		{"too many inputs", node(api.PlanDistinct, api.Plan{}, a, a), api.ErrInvalid},
		{"a scan with an input", node(api.PlanScan, api.Plan{}, a), api.ErrInvalid},
		{"a scan of nothing", scan(len(in)), api.ErrRange},
		{"a scan of a negative number", scan(-1), api.ErrRange},
		{"a scan of an unknown kind", scan(6), api.ErrKind},
		{"a scan without columns", scan(7), api.ErrColumns},
		{"a scan with too many columns", scan(5), api.ErrColumns},
		{"a scan with many columns", scan(4), api.OK},
		{"a predicate that is a number", node(api.PlanFilter, bad, a), api.ErrKind},
		{"too wide a join", node(api.PlanJoin, equal(0, 1), scan(4), a), api.ErrColumns},
		{"different columns", node(api.PlanUnion, api.Plan{}, a, scan(2)), api.ErrColumns},
		{"different kinds", node(api.PlanExcept, api.Plan{}, scan(2), scan(3)), api.ErrKind},
		{"a key that is no column", node(api.PlanGroup, api.Plan{Keys: []int{1}}, a), api.ErrRange},
		{"a value that does not fit", api.Plan{Op: api.PlanValues, Kinds: []int{kText}, Rows: values(1).Rows}, api.ErrInvalid},
		{"the error of the first input", node(api.PlanUnion, api.Plan{}, scan(99), node(api.PlanFilter, bad, a)), api.ErrRange},
		{"the greatest depth", deep(api.MaxDepth), api.OK},
		{"too great a depth", deep(api.MaxDepth + 1), api.ErrDepth},
	} {
		got, isMore := wrong(x.p, in, api.Period{From: 5, To: 7}, 5)
		if got != [4]api.Errno{x.want, x.want, x.want, x.want} || isMore {
			t.Errorf("%s: errors %v, want %d; more: %v", x.name, got, x.want, isMore)
		}
		if x.want == api.OK {
			continue
		}
		// The error of the plan precedes that of the period and of the instant.
		got, isMore = wrong(x.p, in, api.Period{From: 7, To: 5}, -1)
		if got != [4]api.Errno{x.want, x.want, x.want, x.want} || isMore {
			t.Errorf("%s, without instants: errors %v, want %d; more: %v", x.name, got, x.want, isMore)
		}
	}
	if got, isMore := wrong(scan(0), nil, api.Period{From: 5, To: 7}, 5); got[0] != api.ErrRange || got[2] != api.ErrRange || isMore {
		t.Error("without relations", got, isMore)
	}
	if got, _ := wrong(values(1), nil, api.Period{From: 5, To: 7}, 5); got != [4]api.Errno{} {
		t.Error("values without relations", got)
	}
}

func TestErrorsOfInstants(t *testing.T) {
	for _, x := range []struct {
		during api.Period
		want   api.Errno
	}{
		{api.Period{From: 0, To: 1}, api.OK},
		{api.Period{From: 0, To: forever}, api.OK},
		{api.Period{From: forever - 1, To: forever}, api.OK},
		{api.Period{From: 5, To: 5}, api.ErrRange},
		{api.Period{From: 0, To: 0}, api.ErrRange},
		{api.Period{From: 6, To: 5}, api.ErrRange},
		{api.Period{From: -1, To: 5}, api.ErrRange},
		{api.Period{From: -5, To: -3}, api.ErrRange},
		{api.Period{From: 5, To: forever + 1}, api.ErrRange},
		{api.Period{From: forever, To: forever}, api.ErrRange},
		{api.Period{From: forever, To: forever + 1}, api.ErrRange},
		{api.Period{From: 0, To: math.MaxInt}, api.ErrRange},
		{api.Period{From: 0, To: math.MinInt}, api.ErrRange},
		{api.Period{From: math.MinInt, To: math.MinInt}, api.ErrRange},
		{api.Period{From: math.MinInt, To: math.MaxInt}, api.ErrRange},
		{api.Period{From: math.MaxInt, To: math.MinInt}, api.ErrRange},
	} {
		got, isMore := wrong(count(scan(0)), inputs(), x.during, 0)
		if got != [4]api.Errno{api.OK, x.want, api.OK, api.OK} || isMore {
			t.Errorf("%v: errors %v, want %d; more: %v", x.during, got, x.want, isMore)
		}
	}
	for at, want := range map[int]api.Errno{0: api.OK, 7: api.OK, forever - 1: api.OK, -1: api.ErrRange, forever: api.ErrRange, forever + 1: api.ErrRange, math.MinInt: api.ErrRange, math.MaxInt: api.ErrRange} {
		got, isMore := wrong(count(scan(0)), inputs(), api.Period{From: 5, To: 7}, at)
		if got != [4]api.Errno{api.OK, api.OK, want, api.OK} || isMore {
			t.Errorf("%d: errors %v, want %d; more: %v", at, got, want, isMore)
		}
	}
}
