package expr_test

import (
	"strings"
	"testing"

	"bitemporal/api"
	"bitemporal/expr"
)

const most = api.MaxNumber

func TestEvalOfConstantsAndColumns(t *testing.T) {
	row := []api.Value{number(4), word("ab"), {}, truth(1), number(most + 1), word("\n"), {Int: 5}, {Kind: 9}, number(-most)}
	for _, c := range []struct {
		e    api.Expr
		want api.Value
	}{
		{num(4), number(4)}, {str("a"), word("a")}, {yes(), truth(1)}, {no(), truth(0)}, {null(), api.Value{}}, {num(most), number(most)},
		{num(most + 1), api.Value{}}, {str("\x7f"), api.Value{}}, {con(truth(2)), api.Value{}}, {con(api.Value{Int: 3}), api.Value{}}, {con(api.Value{Kind: 4}), api.Value{}},
		{col(0), number(4)}, {col(1), word("ab")}, {col(2), api.Value{}}, {col(3), truth(1)}, {col(8), number(-most)},
		{col(4), api.Value{}}, {col(5), api.Value{}}, {col(6), api.Value{}}, {col(7), api.Value{}}, {col(9), api.Value{}}, {col(-1), api.Value{}}, {col(1 << 62), api.Value{}}, {col(-1 << 63), api.Value{}},
	} {
		if got := expr.Eval(c.e, row); got != c.want {
			t.Error(c, got)
		}
	}
	if got := expr.Eval(col(0), nil); got != (api.Value{}) {
		t.Error(got)
	}
}

func TestEvalOfLogic(t *testing.T) {
	l := []api.Expr{no(), null(), yes()}
	and := [3][3]api.Value{{truth(0), truth(0), truth(0)}, {truth(0), {}, {}}, {truth(0), {}, truth(1)}}
	or := [3][3]api.Value{{truth(0), {}, truth(1)}, {{}, {}, truth(1)}, {truth(1), truth(1), truth(1)}}
	for i, a := range l {
		if got := expr.Eval(op(api.OpNot, a), nil); got != ([]api.Value{truth(1), {}, truth(0)})[i] {
			t.Error("NOT", i, got)
		}
		for j, b := range l {
			if got := expr.Eval(op(api.OpAnd, a, b), nil); got != and[i][j] {
				t.Error("AND", i, j, got)
			}
			if got := expr.Eval(op(api.OpOr, a, b), nil); got != or[i][j] {
				t.Error("OR", i, j, got)
			}
			for k, c := range l {
				if got := expr.Eval(op(api.OpAnd, a, b, c), nil); got != expr.Eval(op(api.OpAnd, op(api.OpAnd, a, b), c), nil) {
					t.Error("AND", i, j, k, got)
				}
				if got := expr.Eval(op(api.OpOr, a, b, c), nil); got != expr.Eval(op(api.OpOr, op(api.OpOr, a, b), c), nil) {
					t.Error("OR", i, j, k, got)
				}
			}
		}
	}
	for _, other := range []api.Expr{num(1), num(0), str("TRUE"), con(truth(2))} {
		for want, e := range map[api.Value]api.Expr{{}: op(api.OpNot, other), truth(0): op(api.OpAnd, other, yes(), no()), truth(1): op(api.OpOr, no(), other, yes())} {
			if got := expr.Eval(e, nil); got != want {
				t.Error(e, got)
			}
		}
		for _, e := range []api.Expr{op(api.OpAnd, other, yes()), op(api.OpOr, other, no()), op(api.OpAnd, other, other)} {
			if got := expr.Eval(e, nil); got != (api.Value{}) {
				t.Error(e, got)
			}
		}
	}
}

func TestEvalOfComparisons(t *testing.T) {
	ops := []int{api.OpEq, api.OpNe, api.OpLt, api.OpLe, api.OpGt, api.OpGe}
	const less, equal, greater, unknown = "FTTTFF", "TFFTFT", "FTFFTT", "??????"
	for _, c := range []struct {
		a, b api.Expr
		want string
	}{
		{num(1), num(2), less}, {num(2), num(2), equal}, {num(2), num(1), greater}, {num(-10), num(-9), less}, {num(-most), num(most), less}, {num(10), num(9), greater},
		{str("a"), str("ab"), less}, {str("ab"), str("ab"), equal}, {str("b"), str("ab"), greater}, {str(""), str("a"), less}, {str("10"), str("9"), less}, {str("a"), str("A"), greater},
		{no(), yes(), less}, {yes(), yes(), equal}, {no(), no(), equal}, {yes(), no(), greater},
		{num(1), str("1"), unknown}, {num(1), yes(), unknown}, {str("TRUE"), yes(), unknown}, {null(), null(), unknown}, {null(), num(0), unknown}, {str(""), null(), unknown}, {no(), null(), unknown},
		{num(most + 1), num(most + 1), unknown}, {str("\n"), str("\n"), unknown}, {con(truth(2)), con(truth(2)), unknown},
	} {
		for i, o := range ops {
			want := map[byte]api.Value{'T': truth(1), 'F': truth(0), '?': {}}[c.want[i]]
			if got := expr.Eval(op(o, c.a, c.b), nil); got != want {
				t.Error(c, o, got)
			}
		}
	}
}

func TestEvalOfNumbers(t *testing.T) {
	const r = 1 << 25
	for _, c := range []struct{ o, a, b, want int }{
		{api.OpAdd, 4, 3, 7}, {api.OpAdd, most - 1, 1, most}, {api.OpAdd, -most, most, 0}, {api.OpAdd, -3, -4, -7},
		{api.OpSub, 1, 4, -3}, {api.OpSub, -most + 1, 1, -most}, {api.OpSub, most, most, 0}, {api.OpSub, 0, -most, most},
		{api.OpMul, 6, 7, 42}, {api.OpMul, -6, 7, -42}, {api.OpMul, r, r, most}, {api.OpMul, -r, r, -most}, {api.OpMul, -r, -r, most}, {api.OpMul, most, 1, most}, {api.OpMul, -1, most, -most}, {api.OpMul, 0, most, 0}, {api.OpMul, -most, 0, 0},
		{api.OpDiv, 7, 2, 3}, {api.OpDiv, 7, -2, -3}, {api.OpDiv, -7, 2, -3}, {api.OpDiv, -7, -2, 3}, {api.OpDiv, 0, 5, 0}, {api.OpDiv, 1, 2, 0}, {api.OpDiv, -1, 2, 0}, {api.OpDiv, -most, -1, most}, {api.OpDiv, most, most, 1},
		{api.OpMod, 7, 2, 1}, {api.OpMod, 7, -2, 1}, {api.OpMod, -7, 2, -1}, {api.OpMod, -7, -2, -1}, {api.OpMod, 6, 3, 0}, {api.OpMod, -6, 3, 0}, {api.OpMod, 2, 7, 2}, {api.OpMod, -most, -1, 0}, {api.OpMod, 0, 7, 0},
	} {
		if got := expr.Eval(op(c.o, num(c.a), num(c.b)), nil); got != number(c.want) {
			t.Error(c, got)
		}
	}
	for a, want := range map[int]int{0: 0, 5: -5, -5: 5, most: -most, -most: most} {
		if got := expr.Eval(op(api.OpNeg, num(a)), nil); got != number(want) {
			t.Error("-", a, got)
		}
	}
	for _, c := range []struct{ o, a, b int }{
		{api.OpAdd, most, 1}, {api.OpAdd, -most, -1}, {api.OpSub, -most, 1}, {api.OpSub, most, -1}, {api.OpSub, 1, -most}, {api.OpMul, most, 2}, {api.OpMul, 2, -most}, {api.OpMul, most, most}, {api.OpMul, -most, -most},
		{api.OpMul, 1 << 40, 1 << 40}, {api.OpMul, 1 << 32, 1 << 32}, {api.OpMul, 1 << 25, 1<<25 + 1}, {api.OpMul, 3, most/3 + 1}, {api.OpDiv, 1, 0}, {api.OpDiv, 0, 0}, {api.OpMod, 1, 0}, {api.OpMod, 0, 0}, {api.OpMod, -most, 0},
	} {
		if got := expr.Eval(op(c.o, num(c.a), num(c.b)), nil); got != (api.Value{}) {
			t.Error(c, got)
		}
	}
}

func TestEvalOfNumbersThatAreNone(t *testing.T) {
	for _, o := range []int{api.OpAdd, api.OpSub, api.OpMul, api.OpDiv, api.OpMod} {
		for _, other := range []api.Expr{null(), str("1"), yes(), no(), num(most + 1)} {
			for _, e := range []api.Expr{op(o, other, num(1)), op(o, num(1), other), op(o, other, other), op(api.OpNeg, other)} {
				if got := expr.Eval(e, nil); got != (api.Value{}) {
					t.Error(e, got)
				}
			}
		}
	}
}

func TestEvalOfTexts(t *testing.T) {
	long := strings.Repeat("x", api.MaxText)
	for _, c := range []struct {
		e    api.Expr
		want api.Value
	}{
		{op(api.OpConcat, str("ab"), str("c")), word("abc")}, {op(api.OpConcat, str("c"), str("ab")), word("cab")}, {op(api.OpConcat, str(""), str("")), word("")}, {op(api.OpConcat, str(long[1:]), str("y")), word(long[1:] + "y")}, {op(api.OpConcat, str(long), str("")), word(long)},
		{op(api.OpConcat, str(long), str("x")), api.Value{}}, {op(api.OpConcat, str(long), str(long)), api.Value{}}, {op(api.OpConcat, str("a"), num(1)), api.Value{}}, {op(api.OpConcat, num(1), str("a")), api.Value{}}, {op(api.OpConcat, str("a"), null()), api.Value{}}, {op(api.OpConcat, null(), str("a")), api.Value{}}, {op(api.OpConcat, yes(), no()), api.Value{}},
		{op(api.OpLength, str("")), number(0)}, {op(api.OpLength, str("ab")), number(2)}, {op(api.OpLength, str(long)), number(200)}, {op(api.OpLength, num(12)), api.Value{}}, {op(api.OpLength, null()), api.Value{}}, {op(api.OpLength, yes()), api.Value{}},
	} {
		if got := expr.Eval(c.e, nil); got != c.want {
			t.Error(c, got)
		}
	}
}

func TestEvalOfChoices(t *testing.T) {
	for _, c := range []struct {
		e    api.Expr
		want api.Value
	}{
		{op(api.OpIsNull, null()), truth(1)}, {op(api.OpIsNull, num(0)), truth(0)}, {op(api.OpIsNull, str("")), truth(0)}, {op(api.OpIsNull, no()), truth(0)}, {op(api.OpIsNull, col(0)), truth(1)}, {op(api.OpIsNull, api.Expr{Op: 99}), truth(1)}, {op(api.OpIsNull, op(api.OpDiv, num(1), num(0))), truth(1)},
		{op(api.OpIf, yes(), num(1), str("a")), number(1)}, {op(api.OpIf, no(), num(1), str("a")), word("a")}, {op(api.OpIf, null(), num(1), num(2)), number(2)}, {op(api.OpIf, num(1), num(1), num(2)), number(2)}, {op(api.OpIf, yes(), null(), num(2)), api.Value{}}, {op(api.OpIf, api.Expr{}, num(1), num(2)), number(2)},
		{op(api.OpCoalesce, null(), num(1), num(2)), number(1)}, {op(api.OpCoalesce, str("a"), num(1)), word("a")}, {op(api.OpCoalesce, null()), api.Value{}}, {op(api.OpCoalesce, null(), null(), no()), truth(0)}, {op(api.OpCoalesce, num(0)), number(0)}, {op(api.OpCoalesce, api.Expr{}, col(7), str("")), word("")}, {op(api.OpCoalesce, null(), null()), api.Value{}},
	} {
		if got := expr.Eval(c.e, nil); got != c.want {
			t.Error(c, got)
		}
	}
}

func TestEvalOfRelations(t *testing.T) {
	// Each relation of a period to [10, 20), in the order of the relations.
	for rel, p := range [][2]int{{3, 9}, {3, 10}, {3, 15}, {10, 15}, {12, 15}, {12, 20}, {10, 20}, {3, 20}, {3, 25}, {10, 25}, {12, 25}, {20, 25}, {21, 25}} {
		for other := range api.Relations {
			if got := expr.Eval(allen(other, num(p[0]), num(p[1]), num(10), num(20)), nil); got != boolean(other == rel) {
				t.Error(rel, other, got)
			}
		}
	}
	if got := expr.Eval(allen(api.Meets, num(0), num(1), num(1), num(api.Forever)), nil); got != truth(1) {
		t.Error(got)
	}
	for _, e := range []api.Expr{
		allen(api.Before, num(7), num(3), num(7), num(9)), allen(api.Before, num(3), num(3), num(7), num(9)), allen(api.Before, num(3), num(7), num(9), num(9)), allen(api.Before, num(-1), num(3), num(7), num(9)), allen(api.Before, num(3), num(4), num(7), num(api.Forever+1)),
		allen(api.Before, null(), num(3), num(7), num(9)), allen(api.Before, num(1), str("3"), num(7), num(9)), allen(api.Before, num(1), num(3), yes(), num(9)), allen(api.Before, num(0), num(3), num(7), null()), allen(api.Before, no(), num(3), num(7), num(9)),
		allen(-1, num(3), num(7), num(7), num(9)), allen(13, num(3), num(7), num(7), num(9)),
	} {
		if got := expr.Eval(e, nil); got != (api.Value{}) {
			t.Error(e, got)
		}
	}
}

// TestEvalOfOtherForms spoils each well-formed expression in each way.
func TestEvalOfOtherForms(t *testing.T) {
	for _, r := range table {
		good := api.Expr{Op: r.op}
		for i := range r.least {
			good.Args = append(good.Args, col(i))
		}
		row := []api.Value{truth(1), number(5), number(7), number(9)}
		if r.args == "i" {
			row[0] = number(3)
		}
		if r.args == "t" {
			row[0], row[1] = word("a"), word("b")
		}
		if r.args == "b" {
			row[1] = truth(1)
		}
		if r.op == api.OpConst {
			good.Value = number(1)
		}
		if got := expr.Eval(good, row); got == (api.Value{}) && (r.args != "=" || r.result != "b") {
			t.Error("a null", good)
		}
		for _, e := range spoiled(good, r) {
			if got := expr.Eval(e, row); got != (api.Value{}) {
				t.Error(e, got)
			}
		}
	}
	for _, o := range []int{0, -1, api.OpName, api.OpRelate, api.OpPeriod, api.OpPeriod + 1, 1 << 40, -1 << 63} {
		for _, e := range []api.Expr{{Op: o}, {Op: o, Value: number(1)}, op(o, num(1)), op(o, yes(), yes()), {Op: o, Name: "a"}} {
			if got := expr.Eval(e, []api.Value{number(1)}); got != (api.Value{}) {
				t.Error(e, got)
			}
		}
	}
}

// spoiled returns copies of a well-formed expression that are not.
func spoiled(e api.Expr, r rule) []api.Expr {
	named, counted, valued, more := e, e, e, e
	named.Name = "a"
	valued.Value.Text = "a"
	counted.Int = -5
	more.Args = append(more.Args[:len(more.Args):len(more.Args)], yes())
	l := []api.Expr{named, valued}
	if r.op != api.OpColumn {
		l = append(l, counted)
	}
	if r.most == r.least {
		l = append(l, more)
	}
	if r.least > 0 {
		fewer := e
		fewer.Args = e.Args[1:]
		l = append(l, fewer, api.Expr{Op: e.Op, Int: e.Int})
	}
	return l
}

func TestEvalIsAsDefined(t *testing.T) {
	next := random(1)
	values := map[int]int{}
	for range 60000 {
		e, row := someExpr(next, 1+next(5)), someRow(next)
		want := eval(e, row)
		values[want.Kind]++
		if got := expr.Eval(e, row); got != want {
			t.Fatal(e, row, got, want)
		}
		if got := expr.Truth(e, row); got != map[api.Value]int{truth(0): api.False, truth(1): api.True}[want]+unknown(want) {
			t.Fatal(e, row, got, want)
		}
	}
	for kind := range 4 {
		if values[kind] < 1000 {
			t.Error("too few values of a kind", kind, values)
		}
	}
}

// unknown returns what makes the truth value of the values other than booleans from a zero.
func unknown(v api.Value) int {
	if v.Kind == api.KindBool {
		return 0
	}
	return api.Unknown
}

func TestTruth(t *testing.T) {
	for _, c := range []struct {
		e    api.Expr
		want int
	}{
		{yes(), api.True}, {no(), api.False}, {null(), api.Unknown}, {num(1), api.Unknown}, {str("TRUE"), api.Unknown}, {api.Expr{}, api.Unknown}, {con(truth(2)), api.Unknown},
		{col(0), api.True}, {col(1), api.False}, {col(2), api.Unknown}, {col(3), api.Unknown}, {op(api.OpEq, col(0), col(1)), api.False}, {op(api.OpEq, col(0), col(2)), api.Unknown},
	} {
		if got := expr.Truth(c.e, []api.Value{truth(1), truth(0), {}}); got != c.want {
			t.Error(c, got)
		}
	}
}
