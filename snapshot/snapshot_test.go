package snapshot_test

import (
	"slices"
	"strings"
	"testing"

	"bitemporal/api"
	"bitemporal/snapshot"
	"bitemporal/tuple"
)

// row returns a row of integers, texts, booleans, and nil for a null.
func row(l ...any) []api.Value {
	r := []api.Value{}
	for _, x := range l {
		switch x := x.(type) {
		case int:
			r = append(r, integer(x))
		case string:
			r = append(r, text(x))
		case bool:
			r = append(r, truth(map[bool]int{true: 1}[x]))
		default:
			r = append(r, api.Value{})
		}
	}
	return r
}

// texts returns the text of the rows of a bag.
func texts(b api.Bag) string {
	var l []string
	for _, r := range b.Rows {
		l = append(l, tuple.Text(r))
	}
	return strings.Join(l, " ")
}

func sample() api.Bag {
	return api.Bag{Kinds: []int{kInt, kText}, Rows: [][]api.Value{row(2, "y"), row(1, "x"), row(2, "y"), row(nil, "x")}}
}

// numbersOf returns a bag with a column of integers.
func numbersOf(l ...any) api.Bag {
	b := api.Bag{Kinds: []int{kInt}}
	for _, x := range l {
		b.Rows = append(b.Rows, row(x))
	}
	return b
}

type resultCase struct {
	name  string
	got   api.Bag
	kinds []int
	want  string
}

func testResults(t *testing.T, l []resultCase) {
	t.Helper()
	for _, x := range l {
		if !slices.Equal(x.got.Kinds, x.kinds) || texts(x.got) != x.want {
			t.Errorf("%s: %v, %s; want %v, %s", x.name, x.got.Kinds, texts(x.got), x.kinds, x.want)
		}
	}
}

func TestUnaryOperators(t *testing.T) {
	b, both := sample(), []int{kInt, kText}
	empty := api.Bag{Kinds: both}
	isTwo := operation(api.OpEq, column(0), constant(integer(2)))
	testResults(t, []resultCase{
		{"Filter", snapshot.Filter(b, isTwo), both, "(2, 'y') (2, 'y')"},
		{"Filter by what is unknown for a null", snapshot.Filter(b, operation(api.OpNot, isTwo)), both, "(1, 'x')"},
		{"Filter by TRUE", snapshot.Filter(b, yes), both, "(NULL, 'x') (1, 'x') (2, 'y') (2, 'y')"},
		{"Filter by NULL", snapshot.Filter(b, unclear), both, ""},
		{"Filter of nothing", snapshot.Filter(empty, yes), both, ""},
		{"Project", snapshot.Project(b, []api.Expr{column(1)}), []int{kText}, "('x') ('x') ('y') ('y')"},
		{"Project to another order", snapshot.Project(b, []api.Expr{column(1), operation(api.OpNeg, column(0)), isTwo, column(1)}), []int{kText, kInt, kBool, kText}, "('x', NULL, NULL, 'x') ('x', -1, FALSE, 'x') ('y', -2, TRUE, 'y') ('y', -2, TRUE, 'y')"},
		{"Project to a constant", snapshot.Project(b, []api.Expr{yes}), []int{kBool}, "(TRUE) (TRUE) (TRUE) (TRUE)"},
		{"Project to what is out of range", snapshot.Project(numbersOf(api.MaxNumber), []api.Expr{operation(api.OpAdd, column(0), constant(integer(1)))}), []int{kInt}, "(NULL)"},
		{"Project of nothing", snapshot.Project(empty, []api.Expr{column(1)}), []int{kText}, ""},
		{"Distinct", snapshot.Distinct(b), both, "(NULL, 'x') (1, 'x') (2, 'y')"},
		{"Distinct of nulls", snapshot.Distinct(numbersOf(nil, 1, nil)), []int{kInt}, "(NULL) (1)"},
		{"Distinct of nothing", snapshot.Distinct(empty), both, ""},
	})
}

func TestBinaryOperators(t *testing.T) {
	b, both := sample(), []int{kInt, kText}
	one, kinds := []int{kInt}, []int{kInt, kText, kInt}
	same := operation(api.OpEq, column(0), column(2))
	mirrored := operation(api.OpEq, column(2), column(0))
	other := operation(api.OpAnd, same, operation(api.OpLt, column(0), constant(integer(2))))
	l := numbersOf(nil, 2, 1, 1)
	empty := api.Bag{Kinds: one}
	y := api.Bag{Kinds: both, Rows: [][]api.Value{row(2, "y")}}
	testResults(t, []resultCase{
		{"Join", snapshot.Join(b, l, same, false), kinds, "(1, 'x', 1) (1, 'x', 1) (2, 'y', 2) (2, 'y', 2)"},
		{"Join with the columns exchanged", snapshot.Join(b, l, mirrored, false), kinds, "(1, 'x', 1) (1, 'x', 1) (2, 'y', 2) (2, 'y', 2)"},
		{"Join with a further condition", snapshot.Join(b, l, other, false), kinds, "(1, 'x', 1) (1, 'x', 1)"},
		{"Join by one of two equations", snapshot.Join(b, l, operation(api.OpOr, same, operation(api.OpIsNull, column(2))), false), kinds, "(NULL, 'x', NULL) (1, 'x', NULL) (1, 'x', 1) (1, 'x', 1) (2, 'y', NULL) (2, 'y', NULL) (2, 'y', 2) (2, 'y', 2)"},
		{"Join by TRUE", snapshot.Join(numbersOf(3, 1), numbersOf(2, nil), yes, false), []int{kInt, kInt}, "(1, NULL) (1, 2) (3, NULL) (3, 2)"},
		{"Join by NULL", snapshot.Join(b, l, unclear, false), kinds, ""},
		{"Join with nothing", snapshot.Join(b, empty, yes, false), kinds, ""},
		{"Join of nothing", snapshot.Join(empty, b, yes, false), []int{kInt, kInt, kText}, ""},
		{"Left", snapshot.Join(b, l, same, true), kinds, "(NULL, 'x', NULL) (1, 'x', 1) (1, 'x', 1) (2, 'y', 2) (2, 'y', 2)"},
		{"Left with a further condition", snapshot.Join(b, l, other, true), kinds, "(NULL, 'x', NULL) (1, 'x', 1) (1, 'x', 1) (2, 'y', NULL) (2, 'y', NULL)"},
		{"Left by NULL", snapshot.Join(l, b, unclear, true), []int{kInt, kInt, kText}, "(NULL, NULL, NULL) (1, NULL, NULL) (1, NULL, NULL) (2, NULL, NULL)"},
		{"Left with nothing", snapshot.Join(b, empty, yes, true), kinds, "(NULL, 'x', NULL) (1, 'x', NULL) (2, 'y', NULL) (2, 'y', NULL)"},
		{"Left of nothing", snapshot.Join(empty, b, yes, true), []int{kInt, kInt, kText}, ""},
		{"Union", snapshot.Union(l, numbersOf(1, nil, 0)), one, "(NULL) (NULL) (0) (1) (1) (1) (2)"},
		{"Except", snapshot.Except(b, y), both, "(NULL, 'x') (1, 'x') (2, 'y')"},
		{"Except of more", snapshot.Except(y, b), both, ""},
		{"Except of a null", snapshot.Except(l, numbersOf(nil, 1, 5)), one, "(1) (2)"},
		{"Intersect", snapshot.Intersect(b, y), both, "(2, 'y')"},
		{"Intersect of nulls", snapshot.Intersect(numbersOf(nil, nil, 1, 1, 1), numbersOf(1, nil, 1, 2)), one, "(NULL) (1) (1)"},
		{"Intersect with nothing", snapshot.Intersect(l, empty), one, ""},
		{"Except of nothing", snapshot.Except(l, empty), one, "(NULL) (1) (1) (2)"},
	})
}

func TestGroup(t *testing.T) {
	b := sample()
	agg := func(op, arg int) api.Agg { return api.Agg{Op: op, Arg: arg} }
	count := agg(api.AggCount, -1)
	group := func(b api.Bag, keys []int, l ...api.Agg) api.Bag { return snapshot.Group(b, keys, l) }
	flags := api.Bag{Kinds: []int{kBool, kText, kInt}, Rows: [][]api.Value{row(true, "b", nil), row(false, "ab", -3), row(nil, nil, -5), row(true, "", 2)}}
	testResults(t, []resultCase{
		{"the example", group(b, []int{1}, count, agg(api.AggCount, 0), agg(api.AggSum, 0)), []int{kText, kInt, kInt, kInt}, "('x', 2, 1, 1) ('y', 2, 2, 4)"},
		{"a null as a key", group(b, []int{0}, count), []int{kInt, kInt}, "(NULL, 1) (1, 1) (2, 2)"},
		{"two keys", group(b, []int{1, 0}, count), []int{kText, kInt, kInt}, "('x', NULL, 1) ('x', 1, 1) ('y', 2, 2)"},
		{"a key twice", group(b, []int{1, 1}, count), []int{kText, kText, kInt}, "('x', 'x', 2) ('y', 'y', 2)"},
		{"only keys", group(b, []int{1}), []int{kText}, "('x') ('y')"},
		{"no keys", group(b, nil, count, agg(api.AggMax, 1)), []int{kInt, kText}, "(4, 'y')"},
		{"least and greatest", group(flags, nil, agg(api.AggMin, 0), agg(api.AggMax, 0), agg(api.AggMin, 1), agg(api.AggMax, 1), agg(api.AggMin, 2), agg(api.AggMax, 2), agg(api.AggSum, 2), agg(api.AggCount, 1)), []int{kBool, kBool, kText, kText, kInt, kInt, kInt, kInt}, "(FALSE, TRUE, '', 'b', -5, 2, -6, 3)"},
		{"nothing", group(api.Bag{Kinds: b.Kinds}, []int{1}, count), []int{kText, kInt}, ""},
		{"nothing without keys", group(api.Bag{Kinds: b.Kinds}, nil, count, agg(api.AggSum, 0), agg(api.AggCount, 1), agg(api.AggMin, 0), agg(api.AggMax, 1)), []int{kInt, kInt, kInt, kInt, kText}, "(0, NULL, 0, NULL, NULL)"},
		{"only nulls", group(numbersOf(nil, nil), nil, count, agg(api.AggCount, 0), agg(api.AggSum, 0), agg(api.AggMin, 0), agg(api.AggMax, 0)), []int{kInt, kInt, kInt, kInt, kInt}, "(2, 0, NULL, NULL, NULL)"},
	})
}

func TestSum(t *testing.T) {
	const most = api.MaxNumber
	many := func(n int, l ...any) api.Bag { return numbersOf(slices.Repeat(l, n)...) }
	sum := func(b api.Bag) api.Bag { return snapshot.Group(b, nil, []api.Agg{{Op: api.AggSum}}) }
	for i, x := range []struct {
		b    api.Bag
		want string
	}{
		{numbersOf(most), "(1125899906842624)"},
		{numbersOf(-most), "(-1125899906842624)"},
		{numbersOf(most, 1), "(NULL)"},
		{numbersOf(-most, -1), "(NULL)"},
		{numbersOf(most, -most, most, nil), "(1125899906842624)"},
		{numbersOf(most, 1, -1), "(1125899906842624)"},
		{numbersOf(-most, -1, 1), "(-1125899906842624)"},
		{numbersOf(1<<32-1, 1<<32-1, 2), "(8589934592)"},
		{numbersOf(-1, -1<<32, 5), "(-4294967292)"},
		{numbersOf(most-1<<32, 1<<32-1), "(1125899906842623)"},
		{numbersOf(most-1<<32, 1<<32-1, 1), "(1125899906842624)"},
		{numbersOf(-most+1<<32, -1<<32+1, -1), "(-1125899906842624)"},
		{numbersOf(-most+1<<32, -1<<32, -1), "(NULL)"},
		{many(1<<13, most), "(NULL)"},
		{many(1<<13, -most), "(NULL)"},
		{many(1<<14, most), "(NULL)"},
		{many(1<<14, -most), "(NULL)"},
		{api.Bag{Kinds: []int{kInt}, Rows: slices.Concat(many(1<<14, most).Rows, numbersOf(7).Rows, many(1<<14, -most).Rows)}, "(7)"},
		{api.Bag{Kinds: []int{kInt}, Rows: slices.Concat(many(1<<13, -most).Rows, numbersOf(-7).Rows, many(1<<13, most).Rows)}, "(-7)"},
	} {
		if got := texts(sum(x.b)); got != x.want {
			t.Errorf("case %d: %s, want %s", i, got, x.want)
		}
	}
}

func TestSame(t *testing.T) {
	for i, x := range []struct {
		a, b api.Bag
		want bool
	}{
		{api.Bag{}, api.Bag{}, true},
		{numbersOf(), api.Bag{Kinds: []int{kText}}, true},
		{numbersOf(1, nil, 1), numbersOf(nil, 1, 1), true},
		{numbersOf(nil), api.Bag{Kinds: []int{kText}, Rows: [][]api.Value{row(nil)}}, true},
		{numbersOf(1, 1), numbersOf(1), false},
		{numbersOf(1, 1, 2), numbersOf(1, 2, 2), false},
		{numbersOf(1), numbersOf(nil), false},
		{numbersOf(1), api.Bag{Kinds: []int{kText}, Rows: [][]api.Value{row("1")}}, false},
		{sample(), snapshot.Distinct(sample()), false},
	} {
		if snapshot.Same(x.a, x.b) != x.want || snapshot.Same(x.b, x.a) != x.want {
			t.Error("case", i)
		}
	}
}

func TestRun(t *testing.T) {
	in := []api.Bag{sample(), numbersOf(2, 5, 2)}
	same := operation(api.OpEq, column(0), column(2))
	p := grouping(projected(join(same, scan(0), scan(1)), column(1)), []int{0}, api.Agg{Op: api.AggCount, Arg: -1})
	testPlan := func(p api.Plan, want string, wantErr api.Errno) {
		t.Helper()
		if got, err := snapshot.Run(p, in); err != wantErr || texts(got) != want || err != api.OK && got.Kinds != nil {
			t.Errorf("%v, %d; want %s, %d", got, err, want, wantErr)
		}
	}
	testPlan(p, "('y', 4)", api.OK)
	testPlan(scan(1), "(2) (2) (5)", api.OK)
	testPlan(values([]int{kText, kBool}, row("b", nil), row("a", true), row("b", nil)), "('a', TRUE) ('b', NULL) ('b', NULL)", api.OK)
	testPlan(values([]int{kText}), "", api.OK)
	testPlan(node(api.PlanExcept, api.Plan{}, scan(0), node(api.PlanDistinct, api.Plan{}, scan(0))), "(2, 'y')", api.OK)
	testPlan(node(api.PlanUnion, api.Plan{}, scan(0), scan(1)), "", api.ErrColumns)
	testPlan(scan(2), "", api.ErrRange)
	testPlan(api.Plan{}, "", api.ErrKind)
	testPlan(node(api.PlanLeft, api.Plan{Pred: yes}, node(api.PlanIntersect, api.Plan{}, scan(1), values([]int{kInt}, row(5))), filtered(unclear, scan(0))), "(5, NULL, NULL)", api.OK)
	in = append(in, api.Bag{}, api.Bag{Kinds: []int{7}})
	testPlan(scan(2), "", api.ErrColumns)
	testPlan(scan(3), "", api.ErrKind)
	testPlan(scan(1), "(2) (2) (5)", api.OK)
}

// TestLargeBags would take minutes if time grew with the square of the number of rows where it need not.
func TestLargeBags(t *testing.T) {
	const n = 40000
	a, b := api.Bag{Kinds: []int{kInt, kText}}, api.Bag{Kinds: []int{kText, kInt}}
	for i := range n {
		a.Rows = append(a.Rows, row(i*7%n, "x"))
		b.Rows = append(b.Rows, row("x", i))
	}
	e := operation(api.OpAnd, operation(api.OpLe, column(0), column(3)), operation(api.OpEq, column(3), column(0)), operation(api.OpEq, column(1), column(2)))
	if got := snapshot.Join(a, b, e, true); len(got.Rows) != n || tuple.Text(got.Rows[n-1]) != "(39999, 'x', 'x', 39999)" {
		t.Error("Join", len(got.Rows))
	}
	if got := snapshot.Group(snapshot.Union(a, a), []int{0}, []api.Agg{{Op: api.AggCount, Arg: 1}}); len(got.Rows) != n || tuple.Text(got.Rows[9]) != "(9, 2)" {
		t.Error("Group", len(got.Rows))
	}
	if got := snapshot.Except(snapshot.Union(a, a), a); !snapshot.Same(got, a) || !snapshot.Same(snapshot.Intersect(got, a), a) || len(snapshot.Distinct(got).Rows) != n {
		t.Error("Except, Intersect or Distinct")
	}
}
