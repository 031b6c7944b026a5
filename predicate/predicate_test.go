package predicate_test

import (
	"math"
	"testing"

	"bitemporal/api"
	"bitemporal/expr"
	"bitemporal/predicate"
)

func TestConjuncts(t *testing.T) {
	a, b, c, d := op(api.OpEq, col(0), num(3)), col(1), op(api.OpOr, col(2), and(col(3), col(4))), no()
	few, more, named, numbered, valued := and(a), and(a, b), and(a, b), and(a, b), and(a, b)
	named.Name = "a"
	numbered.Int = 1
	valued.Value = number(0)
	for _, x := range []struct {
		e    api.Expr
		want []api.Expr
	}{
		{a, []api.Expr{a}}, {c, []api.Expr{c}}, {api.Expr{}, []api.Expr{{}}}, {null(), []api.Expr{null()}},
		{and(a, b), []api.Expr{a, b}}, {and(a, b, c, d), []api.Expr{a, b, c, d}}, {and(and(a, b), c), []api.Expr{a, b, c}}, {and(a, and(b, c)), []api.Expr{a, b, c}}, {and(and(d, and(c, b)), and(a, a)), []api.Expr{d, c, b, a, a}},
		{few, []api.Expr{few}}, {op(api.OpAnd), []api.Expr{op(api.OpAnd)}}, {named, []api.Expr{named}}, {numbered, []api.Expr{numbered}}, {valued, []api.Expr{valued}},
		{and(few, more, and(named, numbered, valued)), []api.Expr{few, a, b, named, numbered, valued}}, {op(api.OpNot, and(a, b)), []api.Expr{op(api.OpNot, and(a, b))}}, {and(op(99, a, b), b), []api.Expr{op(99, a, b), b}},
	} {
		if got := predicate.Conjuncts(x.e); !sameList(got, x.want) {
			t.Error(x, got)
		}
	}
}

func TestAll(t *testing.T) {
	a, b, c := op(api.OpEq, col(0), num(3)), and(col(1), col(2)), api.Expr{Op: 99, Name: "a"}
	for _, x := range []struct {
		l    []api.Expr
		want api.Expr
	}{
		{nil, yes()}, {[]api.Expr{}, yes()}, {[]api.Expr{a}, a}, {[]api.Expr{b}, b}, {[]api.Expr{c}, c}, {[]api.Expr{a, b}, and(a, b)}, {[]api.Expr{b, a, c, a}, and(b, a, c, a)},
	} {
		if got := predicate.All(x.l); !expr.Same(got, x.want) {
			t.Error(x, got)
		}
	}
}

func TestSplit(t *testing.T) {
	a, b, c := op(api.OpEq, col(0), num(3)), op(api.OpLt, col(2), col(5)), op(api.OpEq, col(1), col(2))
	few := op(api.OpAnd, col(7))
	for _, x := range []struct {
		e                     api.Expr
		n                     int
		before, after, others []api.Expr
	}{
		{a, 1, []api.Expr{a}, nil, nil}, {a, 0, nil, []api.Expr{a}, nil}, {a, -1, nil, []api.Expr{a}, nil}, {a, math.MinInt, nil, []api.Expr{a}, nil}, {a, math.MaxInt, []api.Expr{a}, nil, nil},
		{c, 0, nil, []api.Expr{c}, nil}, {c, 1, nil, []api.Expr{c}, nil}, {c, 2, nil, nil, []api.Expr{c}}, {c, 3, []api.Expr{c}, nil, nil},
		{yes(), 0, []api.Expr{yes()}, nil, nil}, {yes(), -5, []api.Expr{yes()}, nil, nil}, {api.Expr{}, 3, []api.Expr{{}}, nil, nil}, {col(-1), 0, []api.Expr{col(-1)}, nil, nil}, {col(-1), -1, nil, []api.Expr{col(-1)}, nil},
		{and(and(c, b), no(), a), 2, []api.Expr{no(), a}, []api.Expr{b}, []api.Expr{c}}, {and(b, and(a, c), b, a), 1, []api.Expr{a, a}, []api.Expr{b, c, b}, nil}, {and(c, op(api.OpNot, and(a, b)), c), 2, nil, nil, []api.Expr{c, op(api.OpNot, and(a, b)), c}},
		{few, 7, nil, []api.Expr{few}, nil}, {op(99, col(1), op(api.OpConst, col(4))), 3, nil, nil, []api.Expr{op(99, col(1), op(api.OpConst, col(4)))}},
	} {
		before, after, others := predicate.Split(x.e, x.n)
		if !sameList(before, x.before) || !sameList(after, x.after) || !sameList(others, x.others) {
			t.Error(x, before, after, others)
		}
	}
}

func TestPartsAreAsDefined(t *testing.T) {
	next := random(1)
	for range 20000 {
		e, n := somePredicate(next, 1+next(4)), next(7)-1
		want := conjuncts(e)
		if got := predicate.Conjuncts(e); !sameList(got, want) {
			t.Fatal("Conjuncts", e, got)
		}
		if got := predicate.Conjuncts(predicate.All(want)); !sameList(got, want) {
			t.Fatal("All", e, got)
		}
		before, after, others := predicate.Split(e, n)
		for _, c := range want {
			less, most := 0, 0
			for _, i := range expr.Columns(c) {
				if i < n {
					less++
				} else {
					most++
				}
			}
			place := &others
			if most == 0 {
				place = &before
			} else if less == 0 {
				place = &after
			}
			if len(*place) == 0 || !expr.Same((*place)[0], c) {
				t.Fatal("Split", e, n, c)
			}
			*place = (*place)[1:]
		}
		if len(before)+len(after)+len(others) > 0 {
			t.Fatal("Split", e, n, before, after, others)
		}
	}
}

// TestConjunctsHoldTogether compares the truth values of an expression and its conjuncts.
func TestConjunctsHoldTogether(t *testing.T) {
	next := random(2)
	held := 0
	for range 60000 {
		e, row := somePredicate(next, 1+next(3)), someRow(next)
		if next(2) == 0 {
			e, row = typed(next, api.KindBool, 1+next(5)), []api.Value{number(next(5)), word("a"), truth(next(2)), number(next(5))}
		}
		all := true
		for _, c := range predicate.Conjuncts(e) {
			all = all && expr.Truth(c, row) == api.True
		}
		together := predicate.All(predicate.Conjuncts(e))
		if all != (expr.Truth(e, row) == api.True) || all != (expr.Truth(together, row) == api.True) {
			t.Fatal(e, row, together)
		}
		if all {
			held++
		}
		if predicate.Never(e) && all {
			t.Fatal("Never", e, row)
		}
		for _, c := range predicate.Conditions(e) {
			if all && (c.Column < 0 || c.Column >= len(row) || !satisfies(row[c.Column], c)) {
				t.Fatal("Conditions", e, row, c)
			}
		}
		for _, p := range predicate.Equations(e, 2) {
			if all && expr.Truth(op(api.OpEq, col(p.A), col(p.B)), row) != api.True {
				t.Fatal("Equations", e, row, p)
			}
		}
	}
	if held < 3000 {
		t.Error("too few rows", held)
	}
}

// TestResultsAreNewMemory overwrites results and looks at the arguments, and the reverse.
func TestResultsAreNewMemory(t *testing.T) {
	next := random(3)
	for range 5000 {
		e := roomy(somePredicate(next, 1+next(4)))
		keep := expr.Shift(e, 0)
		l := []api.Expr{e, e, e}[:1+next(2)]
		for _, f := range []func() []api.Expr{
			func() []api.Expr { return predicate.Conjuncts(e) },
			func() []api.Expr { return []api.Expr{predicate.All(l)} },
			func() []api.Expr { return []api.Expr{predicate.Simplify(e)} },
			func() []api.Expr {
				before, after, others := predicate.Split(e, 2)
				return append(append(before, after...), others...)
			},
		} {
			results := f()
			want := make([]api.Expr, len(results))
			for i, r := range results {
				want[i] = expr.Shift(r, 0)
			}
			for i, r := range results {
				if !expr.Same(r, want[i]) {
					t.Fatal("two results have memory in common", keep, want[i], r)
				}
				wipe(r)
			}
			if !expr.Same(e, keep) || !isUntouched(e) || !expr.Same(l[:3][2], keep) {
				t.Fatal("an argument was changed", keep, e)
			}
		}
		predicate.Conditions(e)
		predicate.Equations(e, 2)
		predicate.Never(e)
		predicate.Window(e, 0, 1)
		if !expr.Same(e, keep) || !isUntouched(e) {
			t.Fatal("an argument was changed", keep, e)
		}
	}
}

func TestAllCopiesEachTime(t *testing.T) {
	a := op(api.OpEq, col(0), num(3))
	got := predicate.All([]api.Expr{a, a})
	wipe(got.Args[0])
	if !expr.Same(got.Args[1], a) || !expr.Same(a, op(api.OpEq, col(0), num(3))) {
		t.Error(got)
	}
}

// TestDeepExpressions is about depths that Check does not permit, but the functions do.
func TestDeepExpressions(t *testing.T) {
	const deep = 1<<16 - 3
	e, nots := op(api.OpEq, col(0), num(1)), col(0)
	for range deep {
		e, nots = and(e, op(api.OpGe, col(1), num(4))), op(api.OpNeg, nots)
	}
	if got := predicate.Conjuncts(e); len(got) != deep+1 || got[0].Op != api.OpEq || got[deep].Op != api.OpGe {
		t.Error("Conjuncts", len(got))
	}
	before, after, others := predicate.Split(e, 1)
	if len(before) != 1 || len(after) != deep || len(others) != 0 {
		t.Error("Split", len(before), len(after), len(others))
	}
	if got := predicate.Conditions(e); len(got) != deep+1 || predicate.Never(e) || !predicate.Never(and(e, op(api.OpLt, col(1), num(4)))) {
		t.Error("Conditions, Never", len(got))
	}
	if got, ok := predicate.Window(e, 0, 1); got != (api.Period{From: 1, To: 4}) || !ok {
		t.Error("Window", got, ok)
	}
	if got := predicate.Simplify(op(api.OpAdd, nots, num(1))); size(got) > deep+3 || len(predicate.Equations(e, 1)) != 0 {
		t.Error("Simplify, Equations")
	}
}
