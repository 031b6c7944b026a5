package expr_test

import (
	"testing"

	"bitemporal/api"
	"bitemporal/expr"
)

// levels returns e under so many negations.
func levels(e api.Expr, n int) api.Expr {
	for range n {
		e = op(api.OpNeg, e)
	}
	return e
}

func TestCheck(t *testing.T) {
	const n, i, s, b = api.KindNull, api.KindInt, api.KindText, api.KindBool
	kinds := []int{i, s, b, n}
	for _, c := range []struct {
		e    api.Expr
		want int
	}{
		{num(1), i}, {str("a"), s}, {yes(), b}, {null(), n}, {col(0), i}, {col(1), s}, {col(2), b}, {col(3), n},
		{op(api.OpNot, col(2)), b}, {op(api.OpNot, null()), b}, {op(api.OpAnd, col(2), col(2)), b}, {op(api.OpAnd, col(2), null(), yes(), col(3)), b}, {op(api.OpOr, null(), null()), b}, {op(api.OpOr, no(), col(2), col(2)), b},
		{op(api.OpEq, col(0), num(1)), b}, {op(api.OpNe, col(1), str("a")), b}, {op(api.OpLt, col(2), yes()), b}, {op(api.OpLe, null(), null()), b}, {op(api.OpGt, null(), col(1)), b}, {op(api.OpGe, col(0), col(3)), b},
		{op(api.OpAdd, col(0), num(1)), i}, {op(api.OpSub, null(), num(1)), i}, {op(api.OpMul, col(0), null()), i}, {op(api.OpDiv, null(), null()), i}, {op(api.OpMod, col(0), col(0)), i}, {op(api.OpNeg, col(0)), i}, {op(api.OpNeg, null()), i},
		{op(api.OpConcat, col(1), str("a")), s}, {op(api.OpConcat, null(), col(3)), s}, {op(api.OpLength, col(1)), i}, {op(api.OpLength, null()), i},
		{op(api.OpIsNull, col(0)), b}, {op(api.OpIsNull, col(1)), b}, {op(api.OpIsNull, col(2)), b}, {op(api.OpIsNull, null()), b},
		{op(api.OpIf, col(2), num(1), col(0)), i}, {op(api.OpIf, null(), null(), col(1)), s}, {op(api.OpIf, yes(), col(1), null()), s}, {op(api.OpIf, yes(), null(), null()), n}, {op(api.OpIf, col(2), col(2), col(2)), b},
		{op(api.OpCoalesce, col(0)), i}, {op(api.OpCoalesce, null()), n}, {op(api.OpCoalesce, null(), str("a")), s}, {op(api.OpCoalesce, str("a"), null()), s}, {op(api.OpCoalesce, null(), col(2), null(), yes()), b}, {op(api.OpCoalesce, null(), null(), col(3)), n},
		{allen(api.Before, col(0), num(1), null(), col(0)), b}, {allen(api.After, num(5), num(1), num(1), num(2)), b}, {allen(api.Equals, null(), null(), null(), null()), b},
		{levels(col(0), 23), i}, {levels(num(1), 23), i},
	} {
		if got, err := expr.Check(c.e, kinds); got != c.want || err != api.OK {
			t.Error(c, got, err)
		}
	}
}

func TestCheckRejectsKinds(t *testing.T) {
	x, s, b := num(1), str("a"), yes()
	for _, e := range []api.Expr{
		op(api.OpNot, x), op(api.OpNot, s), op(api.OpAnd, x, b), op(api.OpAnd, b, s), op(api.OpAnd, b, b, x), op(api.OpOr, null(), null(), s), op(api.OpOr, x, x),
		op(api.OpEq, x, s), op(api.OpNe, s, x), op(api.OpLt, b, x), op(api.OpLe, s, b), op(api.OpGt, x, b), op(api.OpGe, b, s),
		op(api.OpAdd, x, s), op(api.OpAdd, s, x), op(api.OpAdd, s, s), op(api.OpSub, x, b), op(api.OpMul, b, b), op(api.OpDiv, null(), s), op(api.OpMod, s, null()), op(api.OpNeg, s), op(api.OpNeg, b),
		op(api.OpConcat, x, s), op(api.OpConcat, s, x), op(api.OpConcat, b, b), op(api.OpLength, x), op(api.OpLength, b),
		op(api.OpIf, x, x, x), op(api.OpIf, s, x, x), op(api.OpIf, b, x, s), op(api.OpIf, b, b, x), op(api.OpIf, null(), s, b),
		op(api.OpCoalesce, x, s), op(api.OpCoalesce, null(), s, null(), b), op(api.OpCoalesce, b, null(), x),
		allen(0, s, x, x, x), allen(0, x, b, x, x), allen(0, x, x, s, x), allen(0, x, x, x, b), allen(0, null(), null(), null(), b),
		op(api.OpNot, op(api.OpNeg, x)), op(api.OpAdd, op(api.OpIsNull, x), x), op(api.OpNeg, op(api.OpIf, b, s, null())), op(api.OpLength, op(api.OpCoalesce, null(), x)),
	} {
		if got, err := expr.Check(e, nil); got != 0 || err != api.ErrKind {
			t.Error(e, got, err)
		}
	}
}

func TestCheckRejectsForms(t *testing.T) {
	for _, r := range table {
		good := api.Expr{Op: r.op}
		for range r.least {
			good.Args = append(good.Args, null())
		}
		if got, err := expr.Check(good, []int{api.KindNull}); err != api.OK {
			t.Error(good, got, err)
		}
		for _, e := range spoiled(good, r) {
			if got, err := expr.Check(e, []int{api.KindNull}); got != 0 || err != api.ErrInvalid {
				t.Error(e, got, err)
			}
		}
	}
	for _, e := range []api.Expr{
		num(most + 1), num(-most - 1), str("\n"), con(truth(2)), con(api.Value{Int: 1}), con(api.Value{Kind: 4}), con(api.Value{Kind: api.KindInt, Text: "a"}),
		allen(-1, num(1), num(2), num(1), num(2)), allen(13, num(1), num(2), num(1), num(2)), {Op: api.OpAnd}, op(api.OpAnd, yes()), op(api.OpOr, yes()), {Op: api.OpCoalesce}, op(api.OpColumn, null()), op(api.OpConst, null()),
	} {
		if got, err := expr.Check(e, []int{api.KindInt}); got != 0 || err != api.ErrInvalid {
			t.Error(e, got, err)
		}
	}
	for _, o := range []int{0, -1, api.OpName, api.OpRelate, api.OpPeriod, api.OpPeriod + 1, 1 << 40, -1 << 63} {
		for _, e := range []api.Expr{{Op: o}, op(o, num(1)), op(api.OpIsNull, op(o, num(1))), {Op: o, Name: "a", Int: 3, Value: number(1)}} {
			if got, err := expr.Check(e, []int{api.KindInt}); got != 0 || err != api.ErrKind {
				t.Error(e, got, err)
			}
		}
	}
}

func TestCheckRejectsColumns(t *testing.T) {
	for _, i := range []int{-1, 2, 3, 1 << 62, -1 << 63} {
		if got, err := expr.Check(col(i), []int{api.KindInt, api.KindText}); got != 0 || err != api.ErrColumns {
			t.Error(i, got, err)
		}
	}
	if got, err := expr.Check(op(api.OpIsNull, col(0)), nil); got != 0 || err != api.ErrColumns {
		t.Error(got, err)
	}
}

func TestCheckRejectsDepths(t *testing.T) {
	wide := op(api.OpCoalesce, num(1), num(2), levels(num(1), 22))
	if got, err := expr.Check(wide, nil); got != api.KindInt || err != api.OK {
		t.Error(got, err)
	}
	for _, e := range []api.Expr{
		levels(num(1), 24), levels(num(1), 25), levels(num(1), 1000), op(api.OpCoalesce, num(1), levels(num(1), 23), num(2)), op(api.OpNot, op(api.OpAnd, yes(), levels(yes(), 22))),
	} {
		if got, err := expr.Check(e, nil); got != 0 || err != api.ErrDepth {
			t.Error(got, err)
		}
	}
}

// TestCheckNamesTheFirstError has expressions with several errors.
func TestCheckNamesTheFirstError(t *testing.T) {
	kinds := []int{api.KindInt, api.KindText}
	bad, few, none, wrong := api.Expr{Op: 99}, op(api.OpAdd, num(1)), col(2), op(api.OpAdd, num(1), str("a"))
	for _, c := range []struct {
		e    api.Expr
		want api.Errno
	}{
		{levels(bad, 24), api.ErrDepth}, {op(99, levels(num(1), 24)), api.ErrDepth}, {op(api.OpColumn, levels(col(7), 24)), api.ErrDepth},
		{op(99, few), api.ErrKind}, {op(99, none), api.ErrKind}, {api.Expr{Op: 99, Name: "a", Int: 7}, api.ErrKind},
		{op(api.OpAdd, bad), api.ErrInvalid}, {op(api.OpAdd, none, none, none), api.ErrInvalid}, {api.Expr{Op: api.OpNot, Int: 1, Args: []api.Expr{bad}}, api.ErrInvalid}, {api.Expr{Op: api.OpColumn, Int: 9, Name: "a"}, api.ErrInvalid}, {api.Expr{Op: api.OpColumn, Int: -1, Args: []api.Expr{bad}}, api.ErrInvalid},
		{op(api.OpAdd, none, bad), api.ErrColumns}, {op(api.OpAdd, bad, none), api.ErrKind}, {op(api.OpAdd, few, none), api.ErrInvalid}, {op(api.OpAdd, none, few), api.ErrColumns}, {op(api.OpAdd, wrong, none), api.ErrKind}, {op(api.OpAdd, none, wrong), api.ErrColumns},
		{op(api.OpAdd, str("a"), none), api.ErrColumns}, {op(api.OpAdd, str("a"), few), api.ErrInvalid}, {op(api.OpIf, num(1), num(1), few), api.ErrInvalid}, {op(api.OpAnd, num(1), op(api.OpNot, few), none), api.ErrInvalid}, {op(api.OpCoalesce, num(1), str("a"), none), api.ErrColumns},
		{op(api.OpOr, op(api.OpNot, none), few), api.ErrColumns}, {op(api.OpEq, op(api.OpNeg, op(api.OpNeg, bad)), none), api.ErrKind},
	} {
		if got, err := expr.Check(c.e, kinds); got != 0 || err != c.want {
			t.Error(c, got, err)
		}
	}
}

func TestCheckIsAsDefined(t *testing.T) {
	next := random(2)
	errors := map[api.Errno]int{}
	for range 60000 {
		e := someExpr(next, 1+next(4))
		kinds := []int{next(4), next(4), next(4), next(4)}
		if next(3) > 0 {
			e = typed(next, 1+next(3), 1+next(4), kinds)
		}
		if next(10) == 0 {
			e = levels(e, 18+next(6))
		}
		kinds = kinds[:4-next(8)/7]
		want, wantErr := check(e, kinds)
		errors[wantErr]++
		if got, err := expr.Check(e, kinds); got != want || err != wantErr {
			t.Fatal(e, kinds, got, err, want, wantErr)
		}
	}
	for _, err := range []api.Errno{api.OK, api.ErrKind, api.ErrInvalid, api.ErrColumns, api.ErrDepth} {
		if errors[err] < 500 {
			t.Error("too few of an error", err, errors)
		}
	}
}

// TestKindsOfValues evaluates expressions that Check accepts for rows that fit.
func TestKindsOfValues(t *testing.T) {
	next := random(3)
	known := 0
	for range 60000 {
		kinds := []int{1 + next(3), 1 + next(3), 1 + next(3)}
		e := typed(next, 1+next(3), 1+next(6), kinds)
		kind, err := expr.Check(e, kinds)
		if err != api.OK {
			t.Fatal(e, kinds, err)
		}
		got := expr.Eval(e, rowOf(next, kinds))
		if !isValid(got) || got.Kind != api.KindNull && got.Kind != kind {
			t.Fatal(e, kinds, kind, got)
		}
		known += min(got.Kind, 1)
	}
	if known < 20000 {
		t.Error("too few values", known)
	}
}
