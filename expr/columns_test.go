package expr_test

import (
	"math"
	"slices"
	"testing"

	"bitemporal/api"
	"bitemporal/expr"
)

// columns is the definition of Columns.
func columns(e api.Expr) []int {
	occurs := map[int]bool{}
	var collect func(e api.Expr)
	collect = func(e api.Expr) {
		if e.Op == api.OpColumn {
			occurs[e.Int] = true
		}
		for _, a := range e.Args {
			collect(a)
		}
	}
	collect(e)
	var l []int
	for i := range occurs {
		l = append(l, i)
	}
	slices.Sort(l)
	return l
}

// same is the definition of Same.
func same(a, b api.Expr) bool {
	if a.Op != b.Op || a.Int != b.Int || a.Value != b.Value || a.Name != b.Name || len(a.Args) != len(b.Args) {
		return false
	}
	for i := range a.Args {
		if !same(a.Args[i], b.Args[i]) {
			return false
		}
	}
	return true
}

// replaced is the definition of Shift and Substitute: f for each column, and the arguments of all other expressions.
func replaced(e api.Expr, f func(api.Expr) (api.Expr, bool)) api.Expr {
	e, done := f(e)
	if done {
		return e
	}
	var l []api.Expr
	for _, a := range e.Args {
		l = append(l, replaced(a, f))
	}
	e.Args = l
	return e
}

func shifted(e api.Expr, n int) api.Expr {
	return replaced(e, func(x api.Expr) (api.Expr, bool) {
		if x.Op == api.OpColumn {
			x.Int += n
		}
		return x, false
	})
}

func substituted(e api.Expr, l []api.Expr) api.Expr {
	return replaced(e, func(x api.Expr) (api.Expr, bool) {
		if x.Op == api.OpColumn && formError(x) == api.OK && x.Int >= 0 && x.Int < len(l) {
			return l[x.Int], true
		}
		return x, false
	})
}

// wipe overwrites all that is in the memory of an expression, spare capacity included.
func wipe(e api.Expr) {
	l := e.Args[:cap(e.Args)]
	for i := range l {
		if i < len(e.Args) {
			wipe(l[i])
		}
		l[i] = api.Expr{Op: -9, Name: "wiped"}
	}
}

// isUntouched reports whether the spare capacity of all lists of arguments is as roomy made it.
func isUntouched(e api.Expr) bool {
	for _, a := range e.Args {
		if !isUntouched(a) {
			return false
		}
	}
	for _, spare := range e.Args[len(e.Args):cap(e.Args)] {
		if !same(spare, api.Expr{}) {
			return false
		}
	}
	return true
}

// roomy returns a copy of e whose lists of arguments have spare capacity.
func roomy(e api.Expr) api.Expr {
	l := make([]api.Expr, len(e.Args), len(e.Args)+2)
	for i, a := range e.Args {
		l[i] = roomy(a)
	}
	e.Args = l
	return e
}

func TestColumns(t *testing.T) {
	for _, c := range []struct {
		e    api.Expr
		want []int
	}{
		{num(1), nil}, {api.Expr{}, nil}, {col(3), []int{3}}, {col(-1), []int{-1}}, {col(math.MinInt), []int{math.MinInt}},
		{op(api.OpAdd, col(2), op(api.OpMul, col(0), col(2))), []int{0, 2}},
		{op(api.OpIf, col(9), op(api.OpAnd, col(-4), col(10), col(9)), op(api.OpNeg, col(1))), []int{-4, 1, 9, 10}},
		{op(99, col(5), op(api.OpConst, col(4))), []int{4, 5}},
		{api.Expr{Op: api.OpColumn, Int: 7, Name: "a", Args: []api.Expr{col(6), {Op: api.OpName, Int: 5, Name: "a"}}}, []int{6, 7}},
		{api.Expr{Op: api.OpAllen, Int: 3, Args: []api.Expr{num(4), col(0)}}, []int{0}},
	} {
		if got := expr.Columns(c.e); !slices.Equal(got, c.want) {
			t.Error(c, got)
		}
	}
}

func TestShift(t *testing.T) {
	const far = 1 << 20
	for _, c := range []struct {
		e    api.Expr
		n    int
		want api.Expr
	}{
		{col(2), 3, col(5)}, {col(2), 0, col(2)}, {col(2), -3, col(-1)}, {col(far), far, col(2 * far)}, {col(-far), -far, col(-2 * far)}, {num(4), 7, num(4)}, {api.Expr{}, 7, api.Expr{}},
		{op(api.OpAdd, col(2), op(api.OpMul, col(0), num(1))), 3, op(api.OpAdd, col(5), op(api.OpMul, col(3), num(1)))},
		{allen(5, col(0), num(1), col(1), num(2)), 10, allen(5, col(10), num(1), col(11), num(2))},
		{api.Expr{Op: api.OpColumn, Int: 7, Name: "a", Args: []api.Expr{col(6), {Op: api.OpName, Int: 5, Name: "b"}}}, 1, api.Expr{Op: api.OpColumn, Int: 8, Name: "a", Args: []api.Expr{col(7), {Op: api.OpName, Int: 5, Name: "b"}}}},
		{op(99, col(5), op(api.OpConst, col(4))), 2, op(99, col(7), op(api.OpConst, col(6)))},
	} {
		if got := expr.Shift(c.e, c.n); !same(got, c.want) {
			t.Error(c, got)
		}
	}
	expr.Shift(col(math.MaxInt), math.MaxInt)
	expr.Shift(col(math.MinInt), math.MinInt)
}

func TestSubstitute(t *testing.T) {
	sum := op(api.OpAdd, col(0), num(1))
	for _, c := range []struct {
		e    api.Expr
		l    []api.Expr
		want api.Expr
	}{
		{col(0), []api.Expr{sum}, sum}, {col(1), []api.Expr{num(5), sum}, sum}, {col(0), nil, col(0)}, {col(1), []api.Expr{sum}, col(1)}, {col(-1), []api.Expr{sum}, col(-1)}, {col(math.MaxInt), []api.Expr{sum}, col(math.MaxInt)}, {num(1), []api.Expr{sum, sum}, num(1)},
		{op(api.OpAdd, col(2), op(api.OpMul, col(0), col(1))), []api.Expr{num(5), col(0)}, op(api.OpAdd, col(2), op(api.OpMul, num(5), col(0)))},
		{op(api.OpSub, col(0), col(1)), []api.Expr{col(1), col(0)}, op(api.OpSub, col(1), col(0))},
		{op(api.OpAnd, col(0), col(0)), []api.Expr{op(api.OpNot, col(0))}, op(api.OpAnd, op(api.OpNot, col(0)), op(api.OpNot, col(0)))},
		{api.Expr{Op: api.OpColumn, Name: "a"}, []api.Expr{num(5)}, api.Expr{Op: api.OpColumn, Name: "a"}}, {api.Expr{Op: api.OpColumn, Value: number(1)}, []api.Expr{num(5)}, api.Expr{Op: api.OpColumn, Value: number(1)}},
		{op(api.OpColumn, col(0)), []api.Expr{num(5)}, op(api.OpColumn, num(5))}, {op(99, col(0)), []api.Expr{num(5)}, op(99, num(5))}, {op(api.OpNot, col(0), col(0)), []api.Expr{num(5)}, op(api.OpNot, num(5), num(5))},
		{col(0), []api.Expr{{Op: 99, Name: "a", Int: 3}}, api.Expr{Op: 99, Name: "a", Int: 3}}, {api.Expr{Op: api.OpName, Name: "a"}, []api.Expr{num(5)}, api.Expr{Op: api.OpName, Name: "a"}},
	} {
		if got := expr.Substitute(c.e, c.l); !same(got, c.want) {
			t.Error(c, got)
		}
	}
}

func TestColumnsAreAsDefined(t *testing.T) {
	next := random(4)
	for range 30000 {
		e := someExpr(next, 1+next(5))
		var l []api.Expr
		for range next(5) {
			l = append(l, someExpr(next, 1+next(3)))
		}
		if got := expr.Columns(e); !slices.Equal(got, columns(e)) {
			t.Fatal("Columns", e, got)
		}
		n := next(9) - 4
		if got := expr.Shift(e, n); !same(got, shifted(e, n)) {
			t.Fatal("Shift", e, n, got)
		}
		if got := expr.Substitute(e, l); !same(got, substituted(e, l)) {
			t.Fatal("Substitute", e, l, got)
		}
		if got := expr.Depth(e); got != depth(e) {
			t.Fatal("Depth", e, got)
		}
	}
}

// TestResultsAreNewMemory overwrites results and looks at the arguments, and the reverse.
func TestResultsAreNewMemory(t *testing.T) {
	next := random(5)
	for range 3000 {
		e, other := roomy(someExpr(next, 1+next(4))), roomy(someExpr(next, 1+next(3)))
		keep, keepOther := shifted(e, 0), shifted(other, 0)
		l := []api.Expr{other, other, other, other}
		for _, f := range []func() api.Expr{func() api.Expr { return expr.Shift(e, 0) }, func() api.Expr { return expr.Substitute(e, l) }, func() api.Expr { return expr.Substitute(e, nil) }} {
			wipe(f())
			if !same(e, keep) || !same(other, keepOther) || !isUntouched(e) || !isUntouched(other) {
				t.Fatal("an argument was changed", keep, e, other)
			}
		}
		kinds, row := []int{1, 2, 3, 0, 9}, []api.Value{number(1), word("a"), {}, number(9)}
		expr.Check(e, kinds[:3])
		expr.Eval(e, row[:2])
		expr.Truth(e, row[:2])
		expr.Columns(e)
		if !same(e, keep) || !isUntouched(e) || !slices.Equal(kinds, []int{1, 2, 3, 0, 9}) || !slices.Equal(row, []api.Value{number(1), word("a"), {}, number(9)}) {
			t.Fatal("an argument was changed", keep, e, kinds, row)
		}
		want := substituted(shifted(e, 2), []api.Expr{shifted(other, 0)})
		moved := expr.Shift(e, 2)
		got := expr.Substitute(moved, []api.Expr{other})
		wipe(e)
		wipe(other)
		wipe(moved)
		if !same(got, want) {
			t.Fatal("a result changed", keep, keepOther, got)
		}
	}
}

// TestSubstituteCopiesEachTime overwrites one of two places that got the same expression.
func TestSubstituteCopiesEachTime(t *testing.T) {
	sum := op(api.OpAdd, col(0), num(1))
	got := expr.Substitute(op(api.OpEq, col(0), col(0)), []api.Expr{sum})
	wipe(got.Args[0])
	if !same(got.Args[1], sum) || !same(sum, op(api.OpAdd, col(0), num(1))) {
		t.Error(got)
	}
}

func TestSame(t *testing.T) {
	l := []api.Expr{
		{}, {Op: 1}, {Int: 1}, {Value: number(0)}, {Value: number(1)}, {Value: word("")}, {Value: word("a")}, {Name: "a"}, {Name: "b"}, op(0, api.Expr{}), op(0, api.Expr{}, api.Expr{}),
		num(1), num(2), col(1), col(2), op(api.OpNot, num(1)), op(api.OpNot, num(2)), op(api.OpNeg, num(1)), op(api.OpAdd, num(1), num(2)), op(api.OpAdd, num(2), num(1)), op(api.OpAdd, num(1), num(1)), op(api.OpAdd, num(1)),
		op(api.OpNot, op(api.OpNot, col(0))), op(api.OpNot, op(api.OpNot, col(1))), op(api.OpNot, op(api.OpNot, api.Expr{Op: api.OpColumn, Name: "a"})), allen(1, num(1), num(2), num(3), num(4)), allen(2, num(1), num(2), num(3), num(4)),
	}
	for i, a := range l {
		for j, b := range l {
			if got := expr.Same(a, roomy(b)); got != (i == j) {
				t.Error(a, b, got)
			}
		}
	}
	if !expr.Same(api.Expr{Op: 1, Args: []api.Expr{}}, api.Expr{Op: 1}) {
		t.Error("no arguments")
	}
}

func TestDepth(t *testing.T) {
	for _, c := range []struct {
		e    api.Expr
		want int
	}{
		{num(1), 1}, {api.Expr{}, 1}, {op(api.OpNot, yes()), 2}, {op(99, op(99)), 2}, {op(api.OpAnd, yes(), levels(yes(), 3), levels(yes(), 2)), 5}, {op(api.OpConst, col(1)), 2},
		{levels(num(1), 22), 23}, {levels(num(1), 23), 24}, {levels(num(1), 24), 25}, {levels(num(1), 25), 25}, {levels(num(1), 1000), 25}, {op(api.OpAnd, yes(), levels(yes(), 50), yes()), 25},
	} {
		if got := expr.Depth(c.e); got != c.want {
			t.Error(c.want, got)
		}
	}
}

// TestDeepExpressions is about depths that Check does not permit, but the other functions do.
func TestDeepExpressions(t *testing.T) {
	const deep = 1<<16 - 2
	e := levels(col(0), deep)
	if got := expr.Eval(e, []api.Value{number(5)}); got != number(5) {
		t.Error(got)
	}
	if got := expr.Columns(expr.Shift(e, 4)); !slices.Equal(got, []int{4}) {
		t.Error(got)
	}
	if got := expr.Substitute(e, []api.Expr{num(1)}); !expr.Same(got, levels(num(1), deep)) || expr.Same(got, levels(num(1), deep-1)) || expr.Same(got, e) {
		t.Error("Substitute, Same")
	}
	if got, err := expr.Check(e, []int{api.KindInt}); got != 0 || err != api.ErrDepth || expr.Depth(e) != 25 {
		t.Error(got, err)
	}
}

// TestEvalTakesEachArgumentOnce would not end in time if an argument were evaluated twice on each level.
func TestEvalTakesEachArgumentOnce(t *testing.T) {
	build := map[string]func(e api.Expr) api.Expr{
		"if":         func(e api.Expr) api.Expr { return op(api.OpIf, op(api.OpIsNull, e), num(0), num(1)) },
		"then":       func(e api.Expr) api.Expr { return op(api.OpIf, yes(), e, num(0)) },
		"else":       func(e api.Expr) api.Expr { return op(api.OpIf, no(), num(0), e) },
		"coalesce":   func(e api.Expr) api.Expr { return op(api.OpCoalesce, null(), e) },
		"comparison": func(e api.Expr) api.Expr { return op(api.OpLe, op(api.OpNe, op(api.OpGt, e, yes()), no()), yes()) },
		"arithmetic": func(e api.Expr) api.Expr {
			return op(api.OpDiv, op(api.OpMul, e, num(1)), op(api.OpSub, num(1), num(0)))
		},
		"logic":    func(e api.Expr) api.Expr { return op(api.OpAnd, op(api.OpOr, op(api.OpNot, e), no()), yes()) },
		"text":     func(e api.Expr) api.Expr { return op(api.OpLength, op(api.OpConcat, e, str(""))) },
		"relation": func(e api.Expr) api.Expr { return allen(api.Before, num(1), num(2), num(3), e) },
	}
	for name, f := range build {
		e := op(api.OpNeg, num(1))
		for range 100 {
			e = f(e)
		}
		if got := expr.Eval(e, nil); !isValid(got) {
			t.Error(name, got)
		}
	}
}

// TestSubstitution compares the value of a substituted expression with that of the expression for the substituted row.
func TestSubstitution(t *testing.T) {
	next := random(6)
	for range 30000 {
		e, row := someExpr(next, 1+next(4)), someRow(next)
		var l []api.Expr
		var values []api.Value
		for range 6 {
			x := someExpr(next, 1+next(3))
			l, values = append(l, x), append(values, expr.Eval(x, row))
		}
		if c := columns(e); len(c) > 0 && (c[0] < 0 || c[len(c)-1] >= len(l)) {
			continue
		}
		if got, want := expr.Eval(expr.Substitute(e, l), row), expr.Eval(e, values); got != want {
			t.Fatal(e, l, row, got, want)
		}
	}
}

// TestOtherColumnsDoNotMatter changes the columns that Columns does not return, and shifts the others.
func TestOtherColumnsDoNotMatter(t *testing.T) {
	next := random(7)
	for range 30000 {
		e, row := someExpr(next, 1+next(4)), someRow(next)
		used := expr.Columns(e)
		want := expr.Eval(e, row)
		other := slices.Clone(row)
		for i := range other {
			if !slices.Contains(used, i) {
				other[i] = someValue(next)
			}
		}
		if got := expr.Eval(e, other); got != want {
			t.Fatal(e, row, other, got, want)
		}
		if len(used) > 0 && used[0] < 0 {
			continue
		}
		further := someRow(next)
		if got := expr.Eval(expr.Shift(e, len(further)), append(further, row...)); got != want {
			t.Fatal(e, row, further, got, want)
		}
	}
}
