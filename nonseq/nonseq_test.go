package nonseq_test

import (
	"math"
	"reflect"
	"slices"
	"testing"

	"bitemporal/api"
	"bitemporal/nonseq"
	"bitemporal/testkit"
	"bitemporal/value"
)

const (
	forever = api.Forever
	kInt    = api.KindInt
	kText   = api.KindText
)

func fact(from, to int, row ...any) api.Fact { return testkit.Fact(from, to, row...) }

// version returns a version of a fact that was believed from begin to end.
func version(id int, f api.Fact, begin, end, by int) api.Version {
	return api.Version{ID: id, Row: f.Row, Valid: f.Valid, System: api.Period{From: begin, To: end}, By: by}
}

// versions returns those of the chapter's examples.
func versions() []api.Version {
	return []api.Version{
		version(1, fact(0, 8, 1), 10, 20, 1),
		version(2, fact(0, 5, 1), 20, forever, 2),
		version(3, fact(5, 8, 2), 20, forever, 2),
	}
}

func ids(l []api.Version) []int {
	var result []int
	for _, v := range l {
		result = append(result, v.ID)
	}
	return result
}

func TestSelect(t *testing.T) {
	const least, most = math.MinInt, math.MaxInt
	f := fact(3, 9, 1)
	l := append(versions(),
		version(4, f, 0, 1, 3), version(5, f, forever-1, forever, 3), version(6, fact(9, 3), 15, 40, 3),
		version(7, f, 30, 30, 3), version(8, f, 31, 30, 3), version(9, f, -1, 30, 3), version(10, f, 30, forever+1, 3), version(11, f, forever, forever, 3), version(12, f, -5, forever, 3), version(13, f, least, most, 3))
	for _, x := range []struct {
		name string
		c    api.Clause
		want []int
	}{
		{"the current versions", api.Clause{}, []int{2, 3, 5}},
		{"the current versions, with numbers", api.Clause{Kind: api.ClauseCurrent, From: 15, To: 16}, []int{2, 3, 5}},
		{"as of 9", api.Clause{Kind: api.ClauseAsOf, From: 9}, nil},
		{"as of 10", api.Clause{Kind: api.ClauseAsOf, From: 10}, []int{1}},
		{"as of 19", api.Clause{Kind: api.ClauseAsOf, From: 19, To: 5}, []int{1, 6}},
		{"as of 20", api.Clause{Kind: api.ClauseAsOf, From: 20, To: 99}, []int{2, 3, 6}},
		{"as of 0", api.Clause{Kind: api.ClauseAsOf}, []int{4}},
		{"as of 1", api.Clause{Kind: api.ClauseAsOf, From: 1}, nil},
		{"as of -1", api.Clause{Kind: api.ClauseAsOf, From: -1}, nil},
		{"as of the last instant", api.Clause{Kind: api.ClauseAsOf, From: forever - 1}, []int{2, 3, 5}},
		{"as of Forever", api.Clause{Kind: api.ClauseAsOf, From: forever}, nil},
		{"as of the least number", api.Clause{Kind: api.ClauseAsOf, From: least}, nil},
		{"from 5 to 11", api.Clause{Kind: api.ClauseFromTo, From: 5, To: 11}, []int{1}},
		{"from 5 to 10", api.Clause{Kind: api.ClauseFromTo, From: 5, To: 10}, nil},
		{"from 19 to 20", api.Clause{Kind: api.ClauseFromTo, From: 19, To: 20}, []int{1, 6}},
		{"from 19 to 21", api.Clause{Kind: api.ClauseFromTo, From: 19, To: 21}, []int{1, 2, 3, 6}},
		{"from 20 to 21", api.Clause{Kind: api.ClauseFromTo, From: 20, To: 21}, []int{2, 3, 6}},
		{"from 40 to 41", api.Clause{Kind: api.ClauseFromTo, From: 40, To: 41}, []int{2, 3}},
		{"from 15 to 15", api.Clause{Kind: api.ClauseFromTo, From: 15, To: 15}, nil},
		{"from 16 to 15", api.Clause{Kind: api.ClauseFromTo, From: 16, To: 15}, nil},
		{"from -9 to 1", api.Clause{Kind: api.ClauseFromTo, From: -9, To: 1}, []int{4}},
		{"from -9 to 0", api.Clause{Kind: api.ClauseFromTo, From: -9, To: 0}, nil},
		{"from the last instant on", api.Clause{Kind: api.ClauseFromTo, From: forever - 1, To: most}, []int{2, 3, 5}},
		{"from Forever on", api.Clause{Kind: api.ClauseFromTo, From: forever, To: most}, nil},
		{"from the least to the greatest number", api.Clause{Kind: api.ClauseFromTo, From: least, To: most}, []int{1, 2, 3, 4, 5, 6}},
		{"from the greatest to the least number", api.Clause{Kind: api.ClauseFromTo, From: most, To: least}, nil},
		{"between 5 and 10", api.Clause{Kind: api.ClauseBetween, From: 5, To: 10}, []int{1}},
		{"between 5 and 9", api.Clause{Kind: api.ClauseBetween, From: 5, To: 9}, nil},
		{"between 19 and 19", api.Clause{Kind: api.ClauseBetween, From: 19, To: 19}, []int{1, 6}},
		{"between 19 and 20", api.Clause{Kind: api.ClauseBetween, From: 19, To: 20}, []int{1, 2, 3, 6}},
		{"between 20 and 20", api.Clause{Kind: api.ClauseBetween, From: 20, To: 20}, []int{2, 3, 6}},
		{"between 20 and 19", api.Clause{Kind: api.ClauseBetween, From: 20, To: 19}, nil},
		{"between -9 and 0", api.Clause{Kind: api.ClauseBetween, From: -9, To: 0}, []int{4}},
		{"between -9 and -1", api.Clause{Kind: api.ClauseBetween, From: -9, To: -1}, nil},
		{"between the last instant and the greatest number", api.Clause{Kind: api.ClauseBetween, From: forever - 1, To: most}, []int{2, 3, 5}},
		{"between Forever and the greatest number", api.Clause{Kind: api.ClauseBetween, From: forever, To: most}, nil},
		{"between the greatest numbers", api.Clause{Kind: api.ClauseBetween, From: most, To: most}, nil},
		{"between the least and the greatest number", api.Clause{Kind: api.ClauseBetween, From: least, To: most}, []int{1, 2, 3, 4, 5, 6}},
		{"all", api.Clause{Kind: api.ClauseAll, From: 7, To: 5}, []int{1, 2, 3, 4, 5, 6}},
		{"an unknown kind", api.Clause{Kind: api.ClauseAll + 1}, nil},
		{"a negative kind", api.Clause{Kind: -1}, nil},
		{"the greatest kind", api.Clause{Kind: most, From: 0, To: forever}, nil},
		{"the least kind", api.Clause{Kind: least, From: 0, To: forever}, nil},
	} {
		if got := ids(nonseq.Select(l, x.c)); !slices.Equal(got, x.want) {
			t.Errorf("%s: %v, want %v", x.name, got, x.want)
		}
	}
	if got := nonseq.Select(nil, api.Clause{Kind: api.ClauseAll}); len(got) != 0 {
		t.Error("of no versions", got)
	}
	slices.Reverse(l)
	if got := ids(nonseq.Select(l, api.Clause{})); !slices.Equal(got, []int{5, 3, 2}) {
		t.Error("in the other order", got)
	}
}

// TestSelectKeepsVersions checks that a version is returned with everything that it has.
func TestSelectKeepsVersions(t *testing.T) {
	l := versions()
	for i := range l {
		l[i].Schema, l[i].Until = 5+i, 7+i
	}
	if got := nonseq.Select(l, api.Clause{Kind: api.ClauseAll}); !reflect.DeepEqual(got, l) {
		t.Error(got)
	}
}

func TestFactsAndSlice(t *testing.T) {
	l := append(versions(), version(4, fact(2, 6, 1), 15, 25, 3), version(5, fact(7, 7, 3), 0, 0, 3))
	if got := nonseq.Facts(l); !testkit.Identical(got, []api.Fact{fact(0, 8, 1), fact(0, 5, 1), fact(5, 8, 2), fact(2, 6, 1), fact(7, 7, 3)}) {
		t.Error(got)
	}
	if got := nonseq.Facts(nil); len(got) != 0 {
		t.Error(got)
	}
	for _, x := range []struct {
		at   int
		want []api.Fact
	}{
		{15, []api.Fact{fact(0, 8, 1), fact(2, 6, 1)}},
		{14, []api.Fact{fact(0, 8, 1)}},
		{10, []api.Fact{fact(0, 8, 1)}},
		{9, nil},
		{0, nil},
		{-1, nil},
		{20, []api.Fact{fact(0, 6, 1), fact(2, 5, 1), fact(5, 8, 2)}},
		{24, []api.Fact{fact(0, 6, 1), fact(2, 5, 1), fact(5, 8, 2)}},
		{25, []api.Fact{fact(0, 5, 1), fact(5, 8, 2)}},
		{forever - 1, []api.Fact{fact(0, 5, 1), fact(5, 8, 2)}},
		{forever, nil},
		{math.MinInt, nil},
		{math.MaxInt, nil},
	} {
		if got := nonseq.Slice(l, x.at); !testkit.Identical(got, x.want) {
			t.Errorf("the belief at %d is %v, want %v", x.at, got, x.want)
		}
	}
}

func TestSliceIsCanonical(t *testing.T) {
	l := []api.Version{version(1, fact(5, 8, 2), 0, forever, 1), version(2, fact(3, 5, 1), 0, forever, 1), version(3, fact(1, 3, 1), 5, 9, 1), version(4, fact(4, 4, 1), 0, 9, 1), version(5, fact(-1, 4, 1), 0, 9, 1)}
	if got := nonseq.Slice(l, 7); !testkit.Identical(got, []api.Fact{fact(1, 5, 1), fact(5, 8, 2)}) {
		t.Error(got)
	}
	if got := nonseq.Slice(l, 4); !testkit.Identical(got, []api.Fact{fact(3, 5, 1), fact(5, 8, 2)}) {
		t.Error(got)
	}
}

// row returns a row of integers, texts, booleans, and nil for a null.
func row(l ...any) []api.Value { return fact(0, 1, l...).Row }

func TestRows(t *testing.T) {
	const most = api.MaxNumber
	b := nonseq.Rows([]int{kInt}, versions())
	want := [][]api.Value{row(1, 0, 5, 20, forever, 2), row(1, 0, 8, 10, 20, 1), row(2, 5, 8, 20, forever, 2)}
	if !slices.Equal(b.Kinds, []int{kInt, kInt, kInt, kInt, kInt, kInt}) || !slices.EqualFunc(b.Rows, want, slices.Equal) {
		t.Error(b)
	}
	l := []api.Version{
		version(1, fact(most, most+1, nil, "x"), -most, -most-1, most),
		version(2, fact(math.MinInt, math.MaxInt, 7, ""), math.MaxInt, math.MinInt, -most-1),
		version(3, fact(9, 3, nil, "x"), 8, 8, -5),
		version(4, fact(9, 3, nil, "x"), 8, 8, -5),
		version(5, fact(0, 3, nil, "a"), 0, 8, 0),
	}
	b = nonseq.Rows([]int{kInt, kText}, l)
	want = [][]api.Value{row(nil, "a", 0, 3, 0, 8, 0), row(nil, "x", 9, 3, 8, 8, -5), row(nil, "x", 9, 3, 8, 8, -5), row(nil, "x", most, nil, -most, nil, most), row(7, "", nil, nil, nil, nil, nil)}
	if !slices.Equal(b.Kinds, []int{kInt, kText, kInt, kInt, kInt, kInt, kInt}) || !slices.EqualFunc(b.Rows, want, slices.Equal) {
		t.Error(b)
	}
	if b = nonseq.Rows([]int{api.KindBool}, nil); !slices.Equal(b.Kinds, []int{api.KindBool, kInt, kInt, kInt, kInt, kInt}) || len(b.Rows) != 0 {
		t.Error(b)
	}
}

func scan(i int) api.Plan { return api.Plan{Op: api.PlanScan, Int: i} }

// plan returns a node with an operator and some inputs.
func plan(op int, p api.Plan, inputs ...api.Plan) api.Plan {
	p.Op, p.Inputs = op, inputs
	return p
}

func TestRun(t *testing.T) {
	in := []api.Given{{Kinds: []int{kInt}, Versions: versions()}, {Kinds: []int{kText, kInt}, Versions: []api.Version{version(4, fact(0, 9, "x", 3), 15, 17, 8)}}, {Kinds: []int{kInt}}}
	open := testkit.Operation(api.OpEq, testkit.Column(1+api.BoundSystemTo), testkit.Constant(value.Int(forever)))
	by := []api.Expr{testkit.Column(1 + api.BoundBy), testkit.Column(0)}
	count := []api.Agg{{Op: api.AggCount, Arg: -1}}
	for _, x := range []struct {
		name string
		p    api.Plan
		want [][]api.Value
	}{
		{"a scan", scan(1), [][]api.Value{row("x", 3, 0, 9, 15, 17, 8)}},
		{"a scan of nothing", scan(2), nil},
		{"open versions", plan(api.PlanFilter, api.Plan{Pred: open}, scan(0)), [][]api.Value{row(1, 0, 5, 20, forever, 2), row(2, 5, 8, 20, forever, 2)}},
		{"transactions", plan(api.PlanProject, api.Plan{Exprs: by}, scan(0)), [][]api.Value{row(1, 1), row(2, 1), row(2, 2)}},
		{"versions of transactions", plan(api.PlanGroup, api.Plan{Keys: []int{5}, Aggs: count}, scan(0)), [][]api.Value{row(1, 1), row(2, 2)}},
		{"periods that begin together", plan(api.PlanJoin, api.Plan{Pred: nonseq.Related(api.StartedBy, 1, 7)}, scan(0), scan(0)), [][]api.Value{row(1, 0, 8, 10, 20, 1, 1, 0, 5, 20, forever, 2)}},
		{"a left join", plan(api.PlanLeft, api.Plan{Pred: nonseq.Related(api.Starts, 1, 8)}, scan(0), scan(1)), [][]api.Value{
			row(1, 0, 5, 20, forever, 2, "x", 3, 0, 9, 15, 17, 8), row(1, 0, 8, 10, 20, 1, "x", 3, 0, 9, 15, 17, 8), row(2, 5, 8, 20, forever, 2, nil, nil, nil, nil, nil, nil, nil)}},
		{"what another input does not have", plan(api.PlanExcept, api.Plan{}, scan(0), scan(2)), nonseq.Rows([]int{kInt}, versions()).Rows},
	} {
		if got, err := nonseq.Run(x.p, in); err != api.OK || !slices.EqualFunc(got.Rows, x.want, slices.Equal) {
			t.Errorf("%s: %v, %d; want %v", x.name, got, err, x.want)
		}
	}
	if got, _ := nonseq.Run(scan(1), in); !slices.Equal(got.Kinds, []int{kText, kInt, kInt, kInt, kInt, kInt, kInt}) {
		t.Error("the kinds are", got.Kinds)
	}
}

func TestErrorsOfRun(t *testing.T) {
	kinds := slices.Repeat([]int{kInt}, 4*api.MaxColumns-api.Bounds)
	in := []api.Given{{Kinds: []int{kInt}, Versions: versions()}, {Kinds: kinds}}
	for _, x := range []struct {
		name string
		p    api.Plan
		want api.Errno
	}{
		{"no operator", api.Plan{}, api.ErrKind},
		{"a scan of nothing", scan(2), api.ErrRange},
		{"a scan of a negative number", scan(-1), api.ErrRange},
		{"a scan with an input", plan(api.PlanScan, api.Plan{}, scan(0)), api.ErrInvalid},
		{"the greatest number of columns", scan(1), api.OK},
		{"a column that there is", plan(api.PlanFilter, api.Plan{Pred: nonseq.Related(api.Before, 4, 3)}, scan(0)), api.OK},
		{"a column that there is not", plan(api.PlanFilter, api.Plan{Pred: nonseq.Related(api.Before, 1, 5)}, scan(0)), api.ErrColumns},
		{"a union of different rows", plan(api.PlanUnion, api.Plan{}, scan(0), scan(1)), api.ErrColumns},
	} {
		if got, err := nonseq.Run(x.p, in); err != x.want || err != api.OK && (got.Kinds != nil || got.Rows != nil) {
			t.Errorf("%s: %v, %d; want %d", x.name, got, err, x.want)
		}
	}
	if _, err := nonseq.Run(scan(0), nil); err != api.ErrRange {
		t.Error("without inputs", err)
	}
}

func TestRelated(t *testing.T) {
	column := testkit.Column
	for _, x := range []struct{ rel, a, b int }{{api.Overlaps, 1, 7}, {api.After, 0, 0}, {-1, 5, 3}, {api.Relations, 2, 4 * api.MaxColumns}, {math.MinInt, 4 * api.MaxColumns, 0}} {
		want := api.Expr{Op: api.OpAllen, Int: x.rel, Args: []api.Expr{column(x.a), column(x.a + 1), column(x.b), column(x.b + 1)}}
		if got := nonseq.Related(x.rel, x.a, x.b); !reflect.DeepEqual(got, want) {
			t.Errorf("%v: %v, want %v", x, got, want)
		}
	}
}
