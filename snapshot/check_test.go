package snapshot_test

import (
	"slices"
	"testing"

	"bitemporal/api"
	"bitemporal/snapshot"
)

const (
	kInt, kText, kBool = api.KindInt, api.KindText, api.KindBool
	mostColumns        = 4 * api.MaxColumns
)

// scan returns a scan of input i of the function inputs.
func scan(i int) api.Plan { return api.Plan{Op: api.PlanScan, Int: i} }

const (
	first   = iota // (int, text, bool)
	second         // (int)
	wide           // 48 integers
	broad          // 25 integers
	tooWide        // 49 integers
	narrow         // no columns
	null           // (int, null)
	unknown        // 50 columns of the kind 4
	minus          // (-1)
	swapped        // (text, int, bool)
)

func inputs() [][]int {
	many := func(kind, n int) []int { return slices.Repeat([]int{kind}, n) }
	return [][]int{{kInt, kText, kBool}, {kInt}, many(kInt, 48), many(kInt, 25), many(kInt, 49), nil, {kInt, api.KindNull}, many(4, 50), {-1}, {kText, kInt, kBool}}
}

func node(op int, p api.Plan, l ...api.Plan) api.Plan {
	p.Op, p.Inputs = op, l
	return p
}

func filtered(e api.Expr, p api.Plan) api.Plan { return node(api.PlanFilter, api.Plan{Pred: e}, p) }

func projected(p api.Plan, l ...api.Expr) api.Plan {
	return node(api.PlanProject, api.Plan{Exprs: l}, p)
}

func join(e api.Expr, p, q api.Plan) api.Plan { return node(api.PlanJoin, api.Plan{Pred: e}, p, q) }

func grouping(p api.Plan, keys []int, l ...api.Agg) api.Plan {
	return node(api.PlanGroup, api.Plan{Keys: keys, Aggs: l}, p)
}

func values(kinds []int, l ...[]api.Value) api.Plan {
	return api.Plan{Op: api.PlanValues, Kinds: kinds, Rows: l}
}

var (
	yes      = constant(truth(1))
	unclear  = constant(api.Value{})
	badOp    = api.Expr{}
	badArgs  = operation(api.OpNot)
	badKinds = operation(api.OpAdd, constant(integer(1)), constant(text("x")))
)

// nested returns n negations of a constant.
func nested(n int) api.Expr {
	e := yes
	for range n {
		e = operation(api.OpNot, e)
	}
	return e
}

type checkCase struct {
	p    api.Plan
	want []int
	err  api.Errno
}

func testCheck(t *testing.T, l []checkCase) {
	t.Helper()
	for i, x := range l {
		got, err := snapshot.Check(x.p, inputs())
		if err != x.err || !slices.Equal(got, x.want) {
			t.Errorf("case %d: %v, %d; want %v, %d", i, got, err, x.want, x.err)
		}
	}
}

func TestCheckOfInputs(t *testing.T) {
	row := []api.Value{integer(1), text("x")}
	kinds := []int{kInt, kText}
	testCheck(t, []checkCase{
		{scan(first), []int{kInt, kText, kBool}, api.OK},
		{scan(wide), inputs()[wide], api.OK},
		{scan(-1), nil, api.ErrRange},
		{scan(len(inputs())), nil, api.ErrRange},
		{scan(-1 << 63), nil, api.ErrRange},
		{scan(1<<63 - 1), nil, api.ErrRange},
		{scan(tooWide), nil, api.ErrColumns},
		{scan(narrow), nil, api.ErrColumns},
		{scan(null), nil, api.ErrKind},
		{scan(unknown), nil, api.ErrKind},
		{scan(minus), nil, api.ErrKind},
		{api.Plan{Op: api.PlanScan, Int: second, Kinds: []int{9}, Rows: [][]api.Value{nil}, Pred: badOp, Exprs: []api.Expr{badOp}, Keys: []int{-5}, Aggs: []api.Agg{{}}}, []int{kInt}, api.OK},
		{values(kinds), kinds, api.OK},
		{values(kinds, row, row, []api.Value{{}, {}}), kinds, api.OK},
		{values(kinds, row, row[:1]), nil, api.ErrInvalid},
		{values(kinds, row, nil), nil, api.ErrInvalid},
		{values(kinds, append(slices.Clone(row), api.Value{})), nil, api.ErrInvalid},
		{values(kinds, []api.Value{integer(1), truth(1)}), nil, api.ErrInvalid},
		{values(kinds, []api.Value{integer(api.MaxNumber + 1), {}}), nil, api.ErrInvalid},
		{values(kinds, []api.Value{{Int: 1}, {}}), nil, api.ErrInvalid},
		{values([]int{kInt, api.KindNull}, []api.Value{integer(1), {}}), nil, api.ErrKind},
		{values([]int{4}, row), nil, api.ErrKind},
		{values([]int{-1}), nil, api.ErrKind},
		{values(nil), nil, api.ErrColumns},
		{values(nil, nil), nil, api.ErrColumns},
		{values(nil, row), nil, api.ErrInvalid},
		{values(inputs()[wide]), inputs()[wide], api.OK},
		{values(inputs()[tooWide]), nil, api.ErrColumns},
		{values(inputs()[tooWide], row), nil, api.ErrInvalid},
		{values(inputs()[unknown], row), nil, api.ErrKind},
		{values(kinds, slices.Repeat([][]api.Value{row}, api.MaxRows)...), kinds, api.OK},
		{values(kinds, slices.Repeat([][]api.Value{row}, api.MaxRows+1)...), nil, api.ErrTooLong},
		{values([]int{4}, slices.Repeat([][]api.Value{row}, api.MaxRows)...), nil, api.ErrKind},
		{values([]int{4}, slices.Repeat([][]api.Value{nil}, api.MaxRows+1)...), nil, api.ErrTooLong},
		{values(nil, slices.Repeat([][]api.Value{nil}, api.MaxRows+1)...), nil, api.ErrTooLong},
	})
}

func TestCheckOfExpressions(t *testing.T) {
	s := scan(first)
	kinds := inputs()[first]
	testCheck(t, []checkCase{
		{filtered(yes, s), kinds, api.OK},
		{filtered(unclear, s), kinds, api.OK},
		{filtered(column(2), s), kinds, api.OK},
		{filtered(operation(api.OpEq, column(0), constant(integer(1))), s), kinds, api.OK},
		{filtered(nested(api.MaxDepth-1), s), kinds, api.OK},
		{filtered(nested(api.MaxDepth), s), nil, api.ErrDepth},
		{filtered(column(0), s), nil, api.ErrKind},
		{filtered(column(1), s), nil, api.ErrKind},
		{filtered(column(3), s), nil, api.ErrColumns},
		{filtered(column(-1), s), nil, api.ErrColumns},
		{filtered(badOp, s), nil, api.ErrKind},
		{filtered(badArgs, s), nil, api.ErrInvalid},
		{filtered(badKinds, s), nil, api.ErrKind},
		{projected(s, column(1)), []int{kText}, api.OK},
		{projected(s, column(1), column(0), column(1), yes, operation(api.OpLength, column(1))), []int{kText, kInt, kText, kBool, kInt}, api.OK},
		{projected(s), nil, api.ErrColumns},
		{projected(s, unclear), nil, api.ErrKind},
		{projected(s, column(0), operation(api.OpCoalesce, unclear)), nil, api.ErrKind},
		{projected(s, badArgs, unclear), nil, api.ErrInvalid},
		{projected(s, unclear, badArgs), nil, api.ErrKind},
		{projected(s, column(3), badArgs), nil, api.ErrColumns},
		{projected(s, nested(api.MaxDepth-1)), []int{kBool}, api.OK},
		{projected(s, nested(api.MaxDepth)), nil, api.ErrDepth},
		{projected(s, slices.Repeat([]api.Expr{yes}, mostColumns)...), slices.Repeat([]int{kBool}, mostColumns), api.OK},
		{projected(s, slices.Repeat([]api.Expr{yes}, mostColumns+1)...), nil, api.ErrColumns},
		{projected(s, append(slices.Repeat([]api.Expr{yes}, mostColumns+1), badArgs)...), nil, api.ErrInvalid},
		{join(yes, s, scan(second)), []int{kInt, kText, kBool, kInt}, api.OK},
		{join(yes, scan(second), s), []int{kInt, kInt, kText, kBool}, api.OK},
		{node(api.PlanLeft, api.Plan{Pred: unclear}, scan(second), s), []int{kInt, kInt, kText, kBool}, api.OK},
		{join(operation(api.OpEq, column(0), column(3)), s, scan(second)), []int{kInt, kText, kBool, kInt}, api.OK},
		{join(operation(api.OpEq, column(1), column(3)), s, scan(second)), nil, api.ErrKind},
		{join(column(3), s, scan(second)), nil, api.ErrKind},
		{node(api.PlanLeft, api.Plan{Pred: column(3)}, s, scan(second)), nil, api.ErrKind},
		{join(column(4), s, scan(second)), nil, api.ErrColumns},
		{join(badArgs, s, scan(second)), nil, api.ErrInvalid},
		{join(operation(api.OpIsNull, column(48)), scan(broad), scan(broad)), nil, api.ErrColumns},
		{join(column(49), scan(broad), scan(broad)), nil, api.ErrKind},
		{join(column(50), scan(broad), scan(broad)), nil, api.ErrColumns},
		{join(badArgs, scan(broad), scan(broad)), nil, api.ErrInvalid},
		{node(api.PlanLeft, api.Plan{Pred: badArgs}, scan(wide), scan(second)), nil, api.ErrInvalid},
		{node(api.PlanLeft, api.Plan{Pred: yes}, scan(wide), scan(second)), nil, api.ErrColumns},
		{join(yes, projected(scan(wide), slices.Repeat([]api.Expr{column(0)}, 23)...), scan(broad)), inputs()[wide], api.OK},
	})
}

func TestCheckOfSetsAndGroups(t *testing.T) {
	s := scan(first)
	count := api.Agg{Op: api.AggCount, Arg: -1}
	agg := func(op, arg int) api.Agg { return api.Agg{Op: op, Arg: arg} }
	cases := []checkCase{
		{node(api.PlanDistinct, api.Plan{}, s), inputs()[first], api.OK},
		{grouping(s, nil, count), []int{kInt}, api.OK},
		{grouping(s, []int{2, 1}), []int{kBool, kText}, api.OK},
		{grouping(s, []int{1, 1, 0}, count, agg(api.AggCount, 1), agg(api.AggSum, 0), agg(api.AggMin, 1), agg(api.AggMax, 2), agg(api.AggMin, 0)), []int{kText, kText, kInt, kInt, kInt, kInt, kText, kBool, kInt}, api.OK},
		{grouping(s, nil), nil, api.ErrColumns},
		{grouping(s, []int{3}), nil, api.ErrRange},
		{grouping(s, []int{0, -1}), nil, api.ErrRange},
		{grouping(s, []int{3}, api.Agg{}), nil, api.ErrRange},
		{grouping(s, nil, api.Agg{}), nil, api.ErrKind},
		{grouping(s, nil, agg(5, 0)), nil, api.ErrKind},
		{grouping(s, nil, agg(-1, 7)), nil, api.ErrKind},
		{grouping(s, nil, agg(api.AggCount, -2)), nil, api.ErrRange},
		{grouping(s, nil, agg(api.AggCount, 3)), nil, api.ErrRange},
		{grouping(s, nil, agg(api.AggCount, 2)), []int{kInt}, api.OK},
		{grouping(s, nil, agg(api.AggSum, -1)), nil, api.ErrRange},
		{grouping(s, nil, agg(api.AggMin, -1)), nil, api.ErrRange},
		{grouping(s, nil, agg(api.AggMax, -1)), nil, api.ErrRange},
		{grouping(s, nil, agg(api.AggMax, 3)), nil, api.ErrRange},
		{grouping(s, nil, agg(api.AggSum, 1)), nil, api.ErrKind},
		{grouping(s, nil, agg(api.AggSum, 2)), nil, api.ErrKind},
		{grouping(s, nil, agg(api.AggSum, 1), agg(api.AggMax, 3)), nil, api.ErrKind},
		{grouping(s, nil, agg(api.AggMax, 3), agg(api.AggSum, 1)), nil, api.ErrRange},
		{grouping(scan(wide), make([]int, 47), count), inputs()[wide], api.OK},
		{grouping(scan(wide), make([]int, 48), count), nil, api.ErrColumns},
		{grouping(scan(wide), make([]int, 49)), nil, api.ErrColumns},
		{grouping(scan(wide), make([]int, 49), agg(api.AggMax, 48)), nil, api.ErrRange},
		{grouping(s, nil, slices.Repeat([]api.Agg{count}, 49)...), nil, api.ErrColumns},
	}
	for _, op := range []int{api.PlanUnion, api.PlanExcept, api.PlanIntersect} {
		cases = append(cases,
			checkCase{node(op, api.Plan{}, s, s), inputs()[first], api.OK},
			checkCase{node(op, api.Plan{}, s, scan(second)), nil, api.ErrColumns},
			checkCase{node(op, api.Plan{}, scan(second), s), nil, api.ErrColumns},
			checkCase{node(op, api.Plan{}, scan(second), projected(s, column(1))), nil, api.ErrKind},
			checkCase{node(op, api.Plan{}, s, scan(swapped)), nil, api.ErrKind},
			checkCase{node(op, api.Plan{}, s, projected(scan(swapped), column(1), column(0), column(2))), inputs()[first], api.OK},
			checkCase{node(op, api.Plan{}, s, projected(scan(swapped), column(0), column(1))), nil, api.ErrColumns},
		)
	}
	testCheck(t, cases)
}

func TestCheckOfNodes(t *testing.T) {
	bad := filtered(badArgs, scan(first))
	cases := []checkCase{
		{api.Plan{}, nil, api.ErrKind},
		{api.Plan{Op: -1}, nil, api.ErrKind},
		{api.Plan{Op: api.PlanGroup + 1, Inputs: []api.Plan{scan(99)}}, nil, api.ErrKind},
		{node(api.PlanScan, api.Plan{Int: 99}, scan(first)), nil, api.ErrInvalid},
		{node(api.PlanScan, api.Plan{}, api.Plan{}), nil, api.ErrInvalid},
		{node(api.PlanValues, api.Plan{}, scan(first)), nil, api.ErrInvalid},
		{filtered(badOp, scan(99)), nil, api.ErrRange},
		{projected(bad), nil, api.ErrInvalid},
		{projected(bad, column(99)), nil, api.ErrInvalid},
		{filtered(column(99), scan(null)), nil, api.ErrKind},
		{filtered(yes, scan(narrow)), nil, api.ErrColumns},
		{projected(scan(tooWide), column(0)), nil, api.ErrColumns},
		{join(badArgs, scan(99), scan(null)), nil, api.ErrRange},
		{join(badArgs, scan(null), scan(99)), nil, api.ErrKind},
		{join(badArgs, scan(first), scan(99)), nil, api.ErrRange},
		{join(yes, node(api.PlanDistinct, api.Plan{}, bad), api.Plan{}), nil, api.ErrInvalid},
		{join(yes, scan(first), node(api.PlanDistinct, api.Plan{}, api.Plan{})), nil, api.ErrKind},
		{node(api.PlanUnion, api.Plan{}, scan(second), scan(narrow)), nil, api.ErrColumns},
		{grouping(bad, []int{99}), nil, api.ErrInvalid},
	}
	for op, n := range map[int]int{api.PlanFilter: 1, api.PlanProject: 1, api.PlanDistinct: 1, api.PlanGroup: 1, api.PlanJoin: 2, api.PlanLeft: 2, api.PlanUnion: 2, api.PlanExcept: 2, api.PlanIntersect: 2} {
		for i := range 4 {
			if i != n {
				cases = append(cases, checkCase{api.Plan{Op: op, Inputs: slices.Repeat([]api.Plan{scan(99)}, i)}, nil, api.ErrInvalid})
			}
		}
		cases = append(cases, checkCase{api.Plan{Op: op, Inputs: slices.Repeat([]api.Plan{scan(99)}, n)}, nil, api.ErrRange})
	}
	testCheck(t, cases)
	if _, err := snapshot.Check(scan(0), nil); err != api.ErrRange {
		t.Error("a scan of no input", err)
	}
	if kinds, err := snapshot.Check(values([]int{kBool}), nil); err != api.OK || !slices.Equal(kinds, []int{kBool}) {
		t.Error("values without inputs", kinds, err)
	}
}

// deep returns a plan of a depth of at least 1 whose nodes have the operator op.
func deep(op, depth int, root api.Plan) api.Plan {
	p := root
	for range depth - 1 {
		p = api.Plan{Op: op, Inputs: []api.Plan{p}}
	}
	return p
}

func TestCheckOfDepth(t *testing.T) {
	most := deep(api.PlanDistinct, api.MaxDepth, scan(first))
	over := deep(api.PlanDistinct, api.MaxDepth+1, scan(first))
	circle := make([]api.Plan, 2)
	circle[0] = scan(first)
	circle[1] = api.Plan{Op: api.PlanUnion, Inputs: circle}
	testCheck(t, []checkCase{
		{most, inputs()[first], api.OK},
		{over, nil, api.ErrDepth},
		{node(api.PlanDistinct, api.Plan{}, most), nil, api.ErrDepth},
		{join(yes, scan(second), most.Inputs[0]), []int{kInt, kInt, kText, kBool}, api.OK},
		{join(badArgs, scan(99), most), nil, api.ErrDepth},
		{join(badArgs, most, scan(99)), nil, api.ErrDepth},
		{node(api.PlanUnion, api.Plan{}, scan(99), scan(99), most), nil, api.ErrDepth},
		{node(api.PlanScan, api.Plan{}, most), nil, api.ErrDepth},
		{node(api.PlanScan, api.Plan{}, most.Inputs[0]), nil, api.ErrInvalid},
		{deep(99, api.MaxDepth+1, scan(99)), nil, api.ErrDepth},
		{deep(99, api.MaxDepth, scan(99)), nil, api.ErrKind},
		{filtered(nested(99), most), nil, api.ErrDepth},
		{deep(0, 1<<16, api.Plan{}), nil, api.ErrDepth},
		{circle[1], nil, api.ErrDepth},
	})
	in := []api.Bag{{Kinds: inputs()[first], Rows: [][]api.Value{{integer(1), text("x"), {}}}}}
	if b, err := snapshot.Run(most, in); err != api.OK || len(b.Rows) != 1 {
		t.Error(b, err)
	}
	if b, err := snapshot.Run(over, in); err != api.ErrDepth || b.Kinds != nil || b.Rows != nil {
		t.Error(b, err)
	}
}
