package predicate_test

import (
	"testing"

	"bitemporal/api"
	"bitemporal/expr"
	"bitemporal/predicate"
)

func or(l ...api.Expr) api.Expr { return op(api.OpOr, l...) }

// TestSimplifyOfConstants has expressions without columns, whose result is the constant of their value.
func TestSimplifyOfConstants(t *testing.T) {
	relation := api.Expr{Op: api.OpAllen, Int: api.Meets, Args: []api.Expr{num(1), num(3), num(3), num(9)}}
	for _, c := range []struct {
		e    api.Expr
		want api.Value
	}{
		{num(1), number(1)}, {str("a"), word("a")}, {null(), api.Value{}}, {yes(), truth(1)}, {op(api.OpAdd, num(1), num(2)), number(3)}, {op(api.OpDiv, num(1), num(0)), api.Value{}}, {op(api.OpConcat, str("a"), op(api.OpConcat, str("b"), str("c"))), word("abc")},
		{and(yes(), null()), api.Value{}}, {and(null(), no()), truth(0)}, {or(null(), yes()), truth(1)}, {op(api.OpNot, op(api.OpLt, num(1), num(2))), truth(0)}, {op(api.OpIsNull, op(api.OpNeg, null())), truth(1)}, {relation, truth(1)},
		{op(api.OpIf, null(), num(1), op(api.OpLength, str("abc"))), number(3)}, {op(api.OpCoalesce, null(), null()), api.Value{}}, {op(api.OpCoalesce, null(), num(4)), number(4)}, {op(api.OpNot, num(1)), api.Value{}},
		{api.Expr{}, api.Value{}}, {api.Expr{Op: api.OpName, Name: "a"}, api.Value{}}, {num(most + 1), api.Value{}}, {and(no()), api.Value{}}, {api.Expr{Op: api.OpConst, Int: 1, Value: number(1)}, api.Value{}}, {op(api.OpIsNull, op(99, num(1))), truth(1)}, {op(api.OpConst, num(1)), api.Value{}}, {op(api.OpAdd, num(1)), api.Value{}},
	} {
		if got := predicate.Simplify(c.e); !expr.Same(got, con(c.want)) {
			t.Error(c, got)
		}
	}
}

// TestSimplifyOfParts shows what is simplified beside expressions without columns.
func TestSimplifyOfParts(t *testing.T) {
	c, d := op(api.OpLt, col(0), num(5)), op(api.OpIsNull, col(1))
	for _, x := range []struct{ e, want api.Expr }{
		{col(0), col(0)}, {col(-1), col(-1)}, {c, c}, {op(api.OpLt, col(0), op(api.OpAdd, num(2), num(3))), c}, {op(api.OpAdd, op(api.OpNeg, num(1)), col(0)), op(api.OpAdd, num(-1), col(0))},
		{and(c, no()), no()}, {or(yes(), c), yes()}, {and(yes(), c), c}, {or(c, no()), c}, {and(c, yes(), d), and(c, d)}, {or(no(), c, no(), d), or(c, d)}, {and(c, null()), and(c, null())}, {or(num(1), c), or(num(1), c)}, {and(null(), c, no()), no()}, {and(c, or(d, yes())), c}, {or(c, and(d, no())), c}, {and(c, d), and(c, d)},
		{and(yes(), col(0)), and(col(0), yes())}, {or(col(0), no(), no()), or(col(0), no())}, {and(yes(), op(api.OpNot, col(0))), op(api.OpNot, col(0))}, {and(yes(), op(api.OpIf, col(0), col(1), col(2))), and(op(api.OpIf, col(0), col(1), col(2)), yes())},
		{op(api.OpNot, op(api.OpNot, d)), d}, {op(api.OpNot, op(api.OpNot, col(0))), op(api.OpNot, op(api.OpNot, col(0)))}, {op(api.OpNot, d), op(api.OpNot, d)}, {op(api.OpNot, col(0)), op(api.OpNot, col(0))},
		{op(api.OpIf, yes(), c, d), c}, {op(api.OpIf, no(), c, d), d}, {op(api.OpIf, null(), c, d), d}, {op(api.OpIf, num(1), c, col(0)), col(0)}, {op(api.OpIf, col(2), c, d), op(api.OpIf, col(2), c, d)}, {op(api.OpIf, c, yes(), no()), op(api.OpIf, c, yes(), no())},
		{op(api.OpCoalesce, col(0)), col(0)}, {op(api.OpCoalesce, null(), col(0), null()), col(0)}, {op(api.OpCoalesce, num(1), col(0)), num(1)}, {op(api.OpCoalesce, col(0), num(1), col(1), num(2)), op(api.OpCoalesce, col(0), num(1))}, {op(api.OpCoalesce, null(), col(0), col(1)), op(api.OpCoalesce, col(0), col(1))},
		{and(col(0)), null()}, {op(99, col(0)), null()}, {op(api.OpIsNull, op(99, col(0))), yes()}, {api.Expr{Op: api.OpColumn, Name: "a"}, null()}, {and(c, op(api.OpNot)), and(c, null())},
	} {
		if got := predicate.Simplify(x.e); !expr.Same(got, x.want) {
			t.Error(x, got)
		}
	}
	negations := map[int]int{api.OpEq: api.OpNe, api.OpNe: api.OpEq, api.OpLt: api.OpGe, api.OpGe: api.OpLt, api.OpGt: api.OpLe, api.OpLe: api.OpGt}
	for o, want := range negations {
		if got := predicate.Simplify(op(api.OpNot, op(o, col(0), num(1)))); !expr.Same(got, op(want, col(0), num(1))) {
			t.Error(o, got)
		}
	}
}

// TestSimplifyOfNeutralConstants leaves out a constant where the other argument is a boolean or a null for every row, and keeps it otherwise.
func TestSimplifyOfNeutralConstants(t *testing.T) {
	for _, o := range operators[:21] {
		e := api.Expr{Op: o}
		for _, err := expr.Check(e, nil); err == api.ErrInvalid; _, err = expr.Check(e, nil) {
			e.Args = append(e.Args, null())
		}
		for i := range e.Args {
			e.Args[i] = col(i)
		}
		if o == api.OpCoalesce {
			e.Args = append(e.Args, col(1))
		}
		kind, _ := expr.Check(e, []int{api.KindNull, api.KindNull, api.KindNull, api.KindNull})
		want := map[bool][]api.Expr{true: {e, e}, false: {and(e, yes()), or(e, no())}}[kind == api.KindBool]
		if got := []api.Expr{predicate.Simplify(and(e, yes())), predicate.Simplify(or(no(), e))}; !sameList(got, want) {
			t.Error(e, got)
		}
	}
}

// simplified checks what every simplification must be, and returns it.
func simplified(t *testing.T, e api.Expr) api.Expr {
	got := predicate.Simplify(e)
	if size(got) > size(e) || depth(got) > depth(e) {
		t.Fatal("larger", e, got)
	}
	if len(expr.Columns(e)) == 0 && !expr.Same(got, con(expr.Eval(e, nil))) {
		t.Fatal("not a constant", e, got)
	}
	return got
}

func TestSimplifyKeepsTheValue(t *testing.T) {
	next := random(7)
	smaller := 0
	for range 30000 {
		e := someExpr(next, 1+next(6))
		if next(3) == 0 {
			e = typed(next, 1+next(3), 1+next(6))
		}
		got := simplified(t, e)
		if size(got) < size(e) {
			smaller++
		}
		for range 5 {
			row := someRow(next)
			if a, b := expr.Eval(got, row), expr.Eval(e, row); a != b {
				t.Fatal(e, got, row, a, b)
			}
		}
	}
	if smaller < 5000 {
		t.Error("too few are smaller", smaller)
	}
}

func TestSimplifyKeepsTheKind(t *testing.T) {
	next := random(8)
	accepted := 0
	for range 20000 {
		e := typed(next, 1+next(3), 1+next(6))
		if next(4) == 0 {
			e = someExpr(next, 1+next(4))
		}
		got := simplified(t, e)
		for _, kinds := range [][]int{fixed, {0, 0, 0, 0, 0}, {1, 1, 1, 1, 1}, {2, 2, 2, 2, 2}, {3, 3, 3, 3, 3}, {1, 2, 3}, {next(4), next(4), next(4), next(4), next(4)}} {
			want, err := expr.Check(e, kinds)
			if err != api.OK {
				continue
			}
			accepted++
			if kind, err := expr.Check(got, kinds); err != api.OK || kind != want && kind != api.KindNull {
				t.Fatal(e, got, kinds, kind, err, want)
			}
		}
	}
	if accepted < 15000 {
		t.Error("too few are accepted", accepted)
	}
}
