package predicate_test

import (
	"math"
	"slices"
	"strings"
	"testing"

	"bitemporal/api"
	"bitemporal/expr"
	"bitemporal/predicate"
)

const most = api.MaxNumber

func TestConditions(t *testing.T) {
	for i, o := range comparisons {
		for _, v := range []api.Value{number(0), number(-most), number(most), word(""), word("a"), truth(0), truth(1)} {
			if got := predicate.Conditions(op(o, col(3), con(v))); !slices.Equal(got, []api.Condition{{Op: o, Column: 3, Value: v}}) {
				t.Error(o, v, got)
			}
			if got := predicate.Conditions(op(o, con(v), col(3))); !slices.Equal(got, []api.Condition{{Op: mirrors[i], Column: 3, Value: v}}) {
				t.Error("mirrored", o, v, got)
			}
		}
	}
	for _, e := range []api.Expr{
		yes(), col(0), api.Expr{}, op(api.OpNe, col(0), num(1)), op(api.OpAdd, col(0), num(1)), op(api.OpOr, op(api.OpEq, col(0), num(1)), no()), op(api.OpNot, op(api.OpEq, col(0), num(1))), op(api.OpIsNull, col(0)),
		op(api.OpEq, col(0), null()), op(api.OpLt, null(), col(0)), op(api.OpEq, col(0), num(most+1)), op(api.OpEq, col(0), str("\n")), op(api.OpEq, con(truth(2)), col(0)), op(api.OpEq, col(0), con(api.Value{Int: 1})), op(api.OpEq, col(0), con(api.Value{Kind: 4})),
		op(api.OpEq, col(0), col(1)), op(api.OpEq, num(0), num(1)), op(api.OpEq, col(0), op(api.OpAdd, num(0), num(1))), op(api.OpEq, op(api.OpNeg, col(0)), num(1)), op(api.OpEq, col(0), api.Expr{Op: api.OpName, Name: "a"}), op(api.OpEq, api.Expr{Op: api.OpName, Name: "a"}, num(1)),
		op(api.OpEq), op(api.OpEq, col(0)), op(api.OpEq, num(1)), op(api.OpEq, col(0), num(1), num(1)), and(op(api.OpEq, col(0), num(1))), op(99, col(0), num(1)),
	} {
		if got := predicate.Conditions(e); len(got) != 0 {
			t.Error(e, got)
		}
	}
	e := and(op(api.OpLt, num(3), col(0)), and(col(2), op(api.OpLe, col(0), num(4)), no()), op(api.OpEq, col(-1), str("x")), op(api.OpLt, num(3), col(0)))
	want := []api.Condition{{Op: api.OpGt, Column: 0, Value: number(3)}, {Op: api.OpLe, Column: 0, Value: number(4)}, {Op: api.OpEq, Column: -1, Value: word("x")}, {Op: api.OpGt, Column: 0, Value: number(3)}}
	if got := predicate.Conditions(e); !slices.Equal(got, want) {
		t.Error(got)
	}
}

func TestEquations(t *testing.T) {
	eq := func(a, b int) api.Expr { return op(api.OpEq, col(a), col(b)) }
	for _, c := range []struct {
		e     api.Expr
		split int
		want  []api.Pair
	}{
		{eq(0, 3), 2, []api.Pair{{A: 0, B: 3}}}, {eq(3, 0), 2, []api.Pair{{A: 0, B: 3}}}, {eq(0, 3), 1, []api.Pair{{A: 0, B: 3}}}, {eq(0, 3), 3, []api.Pair{{A: 0, B: 3}}}, {eq(0, 3), 0, nil}, {eq(0, 3), 4, nil}, {eq(2, 2), 2, nil}, {eq(2, 2), 3, nil},
		{eq(-1, 0), 0, []api.Pair{{A: -1, B: 0}}}, {eq(math.MaxInt, math.MinInt), 0, []api.Pair{{A: math.MinInt, B: math.MaxInt}}}, {eq(0, 1), math.MinInt, nil}, {eq(0, 1), math.MaxInt, nil},
		{and(eq(5, 0), eq(0, 1), and(eq(1, 4), eq(4, 5)), eq(5, 0), eq(0, 4)), 2, []api.Pair{{A: 0, B: 5}, {A: 1, B: 4}, {A: 0, B: 5}, {A: 0, B: 4}}},
		{op(api.OpLe, col(0), col(3)), 2, nil}, {op(api.OpEq, col(0), num(3)), 2, nil}, {op(api.OpEq, num(0), col(3)), 2, nil}, {op(api.OpEq, col(0)), 2, nil}, {op(api.OpEq, col(0), col(3), col(4)), 2, nil}, {op(api.OpOr, eq(0, 3), eq(0, 3)), 2, nil}, {and(eq(0, 3)), 2, nil}, {op(api.OpNot, eq(0, 3)), 2, nil}, {op(api.OpEq), 0, nil}, {api.Expr{}, 0, nil},
	} {
		if got := predicate.Equations(c.e, c.split); !slices.Equal(got, c.want) {
			t.Error(c, got)
		}
	}
}

func TestNever(t *testing.T) {
	const eq, lt, le, gt, ge = api.OpEq, api.OpLt, api.OpLe, api.OpGt, api.OpGe
	is := func(o int, v api.Value) api.Expr { return op(o, col(0), con(v)) }
	a, b, empty, last := word("a"), word("b"), word(""), word(strings.Repeat("~", api.MaxText))
	for _, l := range [][]api.Expr{
		{no()}, {null()}, {num(1)}, {str("TRUE")}, {con(truth(2))}, {{Op: api.OpConst, Int: 1, Value: truth(1)}}, {yes(), no()}, {col(0), and(col(1), null())},
		{is(eq, number(3)), is(eq, number(4))}, {is(lt, number(3)), is(gt, number(3))}, {is(gt, number(3)), is(lt, number(4))}, {is(gt, number(3)), is(le, number(3))}, {is(ge, number(3)), is(lt, number(3))}, {is(ge, number(4)), is(le, number(3))}, {is(eq, number(3)), is(lt, number(3))}, {is(eq, number(3)), is(gt, number(3))}, {is(ge, number(3)), is(le, number(9)), is(eq, number(2))},
		{is(gt, number(most))}, {is(lt, number(-most))}, {is(gt, number(most-1)), is(lt, number(most))}, {is(gt, number(3)), is(gt, number(5)), is(lt, number(9)), is(lt, number(6))},
		{is(eq, truth(0)), is(eq, truth(1))}, {is(gt, truth(1))}, {is(lt, truth(0))}, {is(gt, truth(0)), is(lt, truth(1))}, {is(ge, truth(1)), is(le, truth(0))}, {is(lt, truth(1)), is(eq, truth(1))}, {is(gt, truth(0)), is(eq, truth(0))},
		{is(eq, a), is(eq, b)}, {is(gt, b), is(lt, a)}, {is(ge, b), is(lt, b)}, {is(gt, b), is(le, b)}, {is(gt, b), is(lt, b)}, {is(eq, b), is(lt, b)}, {is(eq, b), is(gt, b)}, {is(ge, b), is(le, a)}, {is(lt, empty)}, {is(lt, empty), is(lt, b)}, {is(gt, last), is(le, last)}, {is(gt, a), is(ge, a), is(le, a)}, {is(le, a), is(lt, a), is(ge, a)},
		{is(eq, number(1)), is(eq, truth(1))}, {is(ge, number(1)), is(le, a)}, {is(ge, a), is(le, number(1))}, {is(le, truth(1)), is(le, a)}, {is(ge, number(1)), is(ge, number(1)), is(ge, truth(0))}, {is(le, a), is(ge, truth(0))},
		{op(eq, col(1), num(1)), is(eq, number(3)), op(eq, num(2), col(1)), is(eq, number(3))}, {and(col(5), op(gt, num(3), col(2))), and(op(lt, num(2), col(2)), yes())}, {op(eq, col(-7), num(1)), op(lt, col(-7), num(1))},
	} {
		if !predicate.Never(predicate.All(l)) {
			t.Error(l)
		}
	}
	for _, l := range [][]api.Expr{
		nil, {yes()}, {col(0)}, {api.Expr{}}, {op(99, no())}, {op(eq, num(1), num(2))}, {op(api.OpNot, yes())}, {op(api.OpOr, no(), no())}, {op(api.OpAnd, no())}, {and(yes(), yes()), col(0)},
		{is(eq, number(3)), is(eq, number(3))}, {is(gt, number(3)), is(lt, number(5))}, {is(ge, number(3)), is(lt, number(4))}, {is(gt, number(3)), is(le, number(4))}, {is(ge, number(3)), is(le, number(3))}, {is(eq, number(3)), is(le, number(3)), is(ge, number(3)), is(gt, number(2)), is(lt, number(4))},
		{is(lt, number(most))}, {is(gt, number(-most))}, {is(ge, number(most))}, {is(le, number(-most))}, {is(gt, number(most-1))}, {is(lt, number(1-most))},
		{is(gt, truth(0))}, {is(lt, truth(1))}, {is(ge, truth(1))}, {is(le, truth(0))}, {is(eq, truth(1)), is(gt, truth(0))}, {is(ge, truth(0)), is(le, truth(1))},
		{is(eq, a), is(eq, a)}, {is(ge, a), is(le, a)}, {is(gt, a), is(lt, b)}, {is(gt, a), is(lt, word("a "))}, {is(le, empty)}, {is(eq, empty)}, {is(ge, empty)}, {is(gt, empty)}, {is(gt, last)}, {is(ge, last)}, {is(lt, word(" "))}, {is(gt, empty), is(lt, word(" "))}, {is(gt, word("9")), is(lt, word("a"))},
		{is(eq, number(3)), op(eq, col(1), num(4))}, {is(eq, number(3)), op(eq, col(1), str("a")), op(eq, col(2), yes())}, {is(eq, api.Value{}), is(eq, number(1))}, {is(eq, number(most+1)), is(eq, number(1))}, {op(api.OpNe, col(0), num(1)), is(eq, number(1))}, {is(eq, number(1)), op(api.OpOr, is(eq, number(2)), no())}, {op(eq, col(0), col(1)), op(lt, col(0), col(1))},
	} {
		if predicate.Never(predicate.All(l)) {
			t.Error(l)
		}
	}
}

func TestWindow(t *testing.T) {
	const eq, lt, le, gt, ge, end = api.OpEq, api.OpLt, api.OpLe, api.OpGt, api.OpGe, api.Forever
	from := func(o, n int) api.Expr { return op(o, col(0), num(n)) }
	to := func(o, n int) api.Expr { return op(o, col(1), num(n)) }
	for _, c := range []struct {
		l    []api.Expr
		want api.Period
	}{
		{nil, api.Period{From: 0, To: end}}, {[]api.Expr{no()}, api.Period{From: 0, To: end}}, {[]api.Expr{op(eq, col(2), str("a")), op(gt, col(3), num(5))}, api.Period{From: 0, To: end}},
		{[]api.Expr{from(le, 5), to(gt, 5)}, api.Period{From: 5, To: 6}}, {[]api.Expr{from(lt, 5), to(ge, 5)}, api.Period{From: 4, To: 5}}, {[]api.Expr{from(le, 5), to(ge, 9)}, api.Period{From: 5, To: 9}}, {[]api.Expr{from(le, 5), to(ge, 6)}, api.Period{From: 5, To: 6}}, {[]api.Expr{from(le, 5), to(ge, 5)}, api.Period{From: 0, To: end}},
		{[]api.Expr{from(ge, 3), to(le, 9)}, api.Period{From: 3, To: 9}}, {[]api.Expr{from(gt, 3), to(lt, 9)}, api.Period{From: 4, To: 8}}, {[]api.Expr{from(ge, 3)}, api.Period{From: 3, To: end}}, {[]api.Expr{to(le, 9)}, api.Period{From: 0, To: 9}}, {[]api.Expr{from(ge, 8), to(le, 9)}, api.Period{From: 8, To: 9}},
		{[]api.Expr{from(eq, 2), to(eq, 7)}, api.Period{From: 2, To: 7}}, {[]api.Expr{from(eq, 2)}, api.Period{From: 2, To: end}}, {[]api.Expr{to(eq, 7)}, api.Period{From: 0, To: 7}}, {[]api.Expr{from(le, 0)}, api.Period{From: 0, To: 1}}, {[]api.Expr{to(ge, end)}, api.Period{From: end - 1, To: end}}, {[]api.Expr{from(ge, 2), from(le, 4), to(ge, 3), to(le, 8)}, api.Period{From: 2, To: 8}}, {[]api.Expr{from(ge, 2), from(le, 4), to(ge, 5), to(le, 8)}, api.Period{From: 4, To: 5}},
		{[]api.Expr{from(ge, -5), from(ge, 0), to(le, end), to(le, end+1)}, api.Period{From: 0, To: end}}, {[]api.Expr{from(le, end+5), to(gt, -3), from(ge, -most)}, api.Period{From: 0, To: end}}, {[]api.Expr{from(le, end), to(ge, 0), from(lt, most)}, api.Period{From: 0, To: end}}, {[]api.Expr{from(eq, end-1)}, api.Period{From: end - 1, To: end}}, {[]api.Expr{to(eq, 1)}, api.Period{From: 0, To: 1}}, {[]api.Expr{to(lt, 2)}, api.Period{From: 0, To: 1}},
		{[]api.Expr{op(ge, num(5), col(0)), op(lt, num(5), col(1))}, api.Period{From: 5, To: 6}}, {[]api.Expr{op(api.OpNe, col(0), num(0)), op(api.OpOr, from(eq, 1), from(eq, 2)), op(eq, col(0), null()), op(eq, col(1), col(0))}, api.Period{From: 0, To: end}}, {[]api.Expr{from(gt, 3), from(gt, 8), from(gt, 5), to(lt, 20), to(lt, 12), to(lt, 15)}, api.Period{From: 9, To: 11}},
	} {
		if got, ok := predicate.Window(predicate.All(c.l), 0, 1); got != c.want || !ok {
			t.Error(c, got, ok)
		}
	}
	for _, l := range [][]api.Expr{
		{from(ge, 9), to(le, 9)}, {from(ge, 9), to(lt, 10)}, {from(gt, 4), from(lt, 5)}, {to(gt, 4), to(lt, 5)}, {from(lt, 0)}, {from(eq, -1)}, {from(ge, end)}, {from(gt, end-1)}, {to(le, 0)}, {to(lt, 1)}, {to(eq, 0)}, {to(gt, end)}, {to(ge, end+1)}, {from(eq, 5), to(eq, 5)}, {from(eq, 6), to(eq, 5)}, {from(gt, most)}, {to(lt, -most)},
		{op(eq, col(0), str("a"))}, {op(le, col(1), str("a"))}, {op(ge, col(0), no())}, {op(le, col(1), yes())}, {from(ge, 0), op(lt, str("a"), col(0))}, {op(ge, col(1), str("")), to(ge, 3)},
	} {
		if got, ok := predicate.Window(predicate.All(l), 0, 1); got != (api.Period{}) || ok {
			t.Error(l, got, ok)
		}
	}
}

func TestWindowOverOtherColumns(t *testing.T) {
	e := and(op(api.OpGe, col(5), num(3)), op(api.OpLe, col(5), num(9)), op(api.OpLe, col(-2), num(6)), op(api.OpEq, col(0), num(1)))
	for _, c := range []struct {
		from, to int
		want     api.Period
	}{
		{5, -2, api.Period{From: 3, To: 6}}, {-2, 5, api.Period{From: 0, To: 9}}, {5, 5, api.Period{From: 3, To: 9}}, {7, 8, api.Period{From: 0, To: api.Forever}}, {0, 5, api.Period{From: 1, To: 3}}, {5, 7, api.Period{From: 3, To: api.Forever}}, {math.MinInt, math.MaxInt, api.Period{From: 0, To: api.Forever}}, {9, 9, api.Period{From: 0, To: api.Forever}},
	} {
		if got, ok := predicate.Window(e, c.from, c.to); got != c.want || !ok {
			t.Error(c, got, ok)
		}
	}
}

func TestConditionsAreAsDefined(t *testing.T) {
	next := random(4)
	found := map[string]int{}
	for range 60000 {
		e, n := somePredicate(next, 1+next(4)), next(7)-1
		if got := predicate.Conditions(e); !slices.Equal(got, conditions(e)) {
			t.Fatal("Conditions", e, got)
		}
		if got := predicate.Equations(e, n); !slices.Equal(got, equations(e, n)) {
			t.Fatal("Equations", e, n, got)
		}
		if got := predicate.Never(e); got != never(e) {
			t.Fatal("Never", e, got)
		} else if got {
			found["Never"]++
		}
		want, wantOK := window(e, 0, n)
		if got, ok := predicate.Window(e, 0, n); got != want || ok != wantOK {
			t.Fatal("Window", e, n, got, ok, want, wantOK)
		} else if ok && (got != api.Period{From: 0, To: api.Forever}) {
			found["Window"]++
		}
	}
	if found["Never"] < 5000 || found["Never"] > 55000 || found["Window"] < 2000 {
		t.Error("too few of a result", found)
	}
}

// TestBoundsAreAsDefined has only conditions on the columns 0 and 1, of one kind and near each other.
func TestBoundsAreAsDefined(t *testing.T) {
	next := random(5)
	near := [][]api.Value{
		{number(0), number(1), number(2), number(3), number(4)}, {number(-1), number(0), number(1)}, {number(-most), number(1 - most), number(2 - most)}, {number(most), number(most - 1), number(most - 2)}, {number(api.Forever - 1), number(api.Forever), number(api.Forever + 1)},
		{truth(0), truth(1)}, {word(""), word(" "), word("a"), word("a "), word("b")}, {number(1), word("a"), truth(1)},
	}
	found := map[bool]int{}
	for range 60000 {
		values := near[next(len(near))]
		var l []api.Expr
		for range 1 + next(4) {
			a, b := col(next(2)), con(values[next(len(values))])
			if next(2) == 0 {
				a, b = b, a
			}
			l = append(l, op(comparisons[next(len(comparisons))], a, b))
		}
		e := predicate.All(l)
		got := predicate.Never(e)
		if got != never(e) {
			t.Fatal("Never", e, got)
		}
		found[got]++
		want, wantOK := window(e, 0, 1)
		if got, ok := predicate.Window(e, 0, 1); got != want || ok != wantOK {
			t.Fatal("Window", e, got, ok, want, wantOK)
		}
	}
	if found[true] < 10000 || found[false] < 10000 {
		t.Error("too few of a result", found)
	}
}

// TestWindowsMeetPeriods has rows with periods for which a predicate is true.
func TestWindowsMeetPeriods(t *testing.T) {
	next := random(6)
	held := 0
	for range 60000 {
		var l []api.Expr
		for range 1 + next(4) {
			l = append(l, op(comparisons[next(len(comparisons))], col(next(2)), num(next(12)-1)), someExpr(next, 1))
		}
		e := predicate.All(l[:len(l)-next(2)])
		from := next(10)
		p := api.Period{From: from, To: from + 1 + next(6)}
		if expr.Truth(e, []api.Value{number(p.From), number(p.To), truth(1), truth(1), truth(1)}) != api.True {
			continue
		}
		held++
		got, ok := predicate.Window(e, 0, 1)
		if !ok || max(got.From, p.From) >= min(got.To, p.To) {
			t.Fatal(e, p, got, ok)
		}
	}
	if held < 3000 {
		t.Error("too few rows", held)
	}
}
