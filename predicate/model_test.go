package predicate_test

import (
	"slices"

	"bitemporal/api"
	"bitemporal/expr"
)

// random returns a function that continues a fixed sequence of numbers from 0 to n - 1.
func random(seed uint64) func(n int) int {
	return func(n int) int {
		seed = seed*6364136223846793005 + 1442695040888963407
		return int(seed >> 33 % uint64(n))
	}
}

func number(n int) api.Value  { return api.Value{Kind: api.KindInt, Int: n} }
func word(s string) api.Value { return api.Value{Kind: api.KindText, Text: s} }
func truth(n int) api.Value   { return api.Value{Kind: api.KindBool, Int: n} }

func con(v api.Value) api.Expr { return api.Expr{Op: api.OpConst, Value: v} }
func num(n int) api.Expr       { return con(number(n)) }
func str(s string) api.Expr    { return con(word(s)) }
func yes() api.Expr            { return con(truth(1)) }
func no() api.Expr             { return con(truth(0)) }
func null() api.Expr           { return con(api.Value{}) }
func col(i int) api.Expr       { return api.Expr{Op: api.OpColumn, Int: i} }

func op(o int, l ...api.Expr) api.Expr { return api.Expr{Op: o, Args: l} }
func and(l ...api.Expr) api.Expr       { return op(api.OpAnd, l...) }

// sameList reports whether two lists consist of the same expressions.
func sameList(a, b []api.Expr) bool { return slices.EqualFunc(a, b, expr.Same) }

// comparisons are the operators of conditions, and mirrors those that say the same with the arguments exchanged.
var (
	comparisons = []int{api.OpEq, api.OpLt, api.OpLe, api.OpGt, api.OpGe}
	mirrors     = []int{api.OpEq, api.OpGt, api.OpGe, api.OpLt, api.OpLe}
)

// conjuncts is the definition of the conjuncts.
func conjuncts(e api.Expr) []api.Expr {
	if e.Op != api.OpAnd || e.Int != 0 || e.Value != (api.Value{}) || e.Name != "" || len(e.Args) < 2 {
		return []api.Expr{e}
	}
	var l []api.Expr
	for _, a := range e.Args {
		l = append(l, conjuncts(a)...)
	}
	return l
}

func isValid(v api.Value) bool { return expr.Eval(con(v), nil) == v }

// conditions is the definition of Conditions.
func conditions(e api.Expr) []api.Condition {
	var l []api.Condition
	for _, c := range conjuncts(e) {
		i := slices.Index(comparisons, c.Op)
		if i < 0 || len(c.Args) != 2 {
			continue
		}
		a, b := c.Args[0], c.Args[1]
		if a.Op == api.OpColumn && b.Op == api.OpConst && b.Value.Kind != api.KindNull && isValid(b.Value) {
			l = append(l, api.Condition{Op: comparisons[i], Column: a.Int, Value: b.Value})
		}
		if a.Op == api.OpConst && b.Op == api.OpColumn && a.Value.Kind != api.KindNull && isValid(a.Value) {
			l = append(l, api.Condition{Op: mirrors[i], Column: b.Int, Value: a.Value})
		}
	}
	return l
}

// equations is the definition of Equations.
func equations(e api.Expr, split int) []api.Pair {
	var l []api.Pair
	for _, c := range conjuncts(e) {
		if c.Op != api.OpEq || len(c.Args) != 2 || c.Args[0].Op != api.OpColumn || c.Args[1].Op != api.OpColumn {
			continue
		}
		a, b := c.Args[0].Int, c.Args[1].Int
		if a < split && b >= split {
			l = append(l, api.Pair{A: a, B: b})
		}
		if b < split && a >= split {
			l = append(l, api.Pair{A: b, B: a})
		}
	}
	return l
}

// satisfies reports whether a value satisfies a condition.
func satisfies(v api.Value, c api.Condition) bool {
	return expr.Truth(op(c.Op, con(v), con(c.Value)), nil) == api.True
}

func satisfiesAll(v api.Value, l []api.Condition) bool {
	return !slices.ContainsFunc(l, func(c api.Condition) bool { return !satisfies(v, c) })
}

// possible returns the first and the last integer from low to high that satisfies conditions, if it is one of the bounds that these can give; otherwise a greater and a lesser one.
func possible(l []api.Condition, low, high int) (int, int) {
	first, last := high+1, low-1
	try := func(n int) {
		if low <= n && n <= high && satisfiesAll(number(n), l) {
			first, last = min(first, n), max(last, n)
		}
	}
	try(low)
	try(high)
	for _, c := range l {
		try(c.Value.Int - 1)
		try(c.Value.Int)
		try(c.Value.Int + 1)
	}
	return first, last
}

// contradict is the definition of conditions on one column that contradict each other.
func contradict(l []api.Condition) bool {
	for _, c := range l {
		if c.Value.Kind != l[0].Value.Kind {
			return true
		}
	}
	switch l[0].Value.Kind {
	case api.KindInt:
		first, last := possible(l, -api.MaxNumber, api.MaxNumber)
		return first > last
	case api.KindBool:
		return !satisfiesAll(truth(0), l) && !satisfiesAll(truth(1), l)
	}
	for _, low := range l {
		if low.Op == api.OpLt && low.Value.Text == "" {
			return true
		}
		for _, high := range l {
			if low.Op == api.OpLt || low.Op == api.OpLe || high.Op == api.OpGt || high.Op == api.OpGe {
				continue
			}
			strict := low.Op == api.OpGt || high.Op == api.OpLt
			if low.Value.Text > high.Value.Text || low.Value.Text == high.Value.Text && strict {
				return true
			}
		}
	}
	return false
}

// never is the definition of Never.
func never(e api.Expr) bool {
	for _, c := range conjuncts(e) {
		if c.Op == api.OpConst && expr.Truth(c, nil) != api.True {
			return true
		}
	}
	l := conditions(e)
	for _, c := range l {
		if contradict(on(l, c.Column)) {
			return true
		}
	}
	return false
}

// on returns the conditions on a column.
func on(l []api.Condition, column int) []api.Condition {
	var of []api.Condition
	for _, c := range l {
		if c.Column == column {
			of = append(of, c)
		}
	}
	return of
}

// window is the definition of Window.
func window(e api.Expr, from, to int) (api.Period, bool) {
	l := conditions(e)
	a, b := possible(on(l, from), 0, 1<<40-1)
	c, d := possible(on(l, to), 1, 1<<40)
	if a > b || c > d || a >= d {
		return api.Period{}, false
	}
	if b < c {
		return api.Period{From: b, To: c}, true
	}
	return api.Period{From: a, To: d}, true
}

// size is the number of nodes of an expression.
func size(e api.Expr) int {
	n := 1
	for _, a := range e.Args {
		n += size(a)
	}
	return n
}

// depth is the depth of an expression, without a limit.
func depth(e api.Expr) int {
	d := 0
	for _, a := range e.Args {
		d = max(d, depth(a))
	}
	return d + 1
}

// wipe overwrites all that is in the memory of an expression, spare capacity included.
func wipe(e api.Expr) {
	l := e.Args[:cap(e.Args)]
	for i := range l {
		if i < len(e.Args) {
			wipe(l[i])
		}
		l[i] = api.Expr{Op: -9, Name: "wiped"}
	}
}

// roomy returns a copy of e whose lists of arguments have spare capacity.
func roomy(e api.Expr) api.Expr {
	l := make([]api.Expr, len(e.Args), len(e.Args)+2)
	for i, a := range e.Args {
		l[i] = roomy(a)
	}
	e.Args = l
	return e
}

// isUntouched reports whether the spare capacity of all lists of arguments is as roomy made it.
func isUntouched(e api.Expr) bool {
	for _, a := range e.Args {
		if !isUntouched(a) {
			return false
		}
	}
	for _, spare := range e.Args[len(e.Args):cap(e.Args)] {
		if !expr.Same(spare, api.Expr{}) {
			return false
		}
	}
	return true
}

// samples are values of all kinds, and at the end some that are not valid.
var samples = []api.Value{
	{}, number(0), number(1), number(2), number(3), number(4), number(5), number(-1), number(1 << 40), number(1<<40 - 1), number(1 << 50), number(-1 << 50),
	word(""), word("a"), word("b"), word("~"), truth(0), truth(1), truth(1),
	{Int: 1}, number(1<<50 + 1), word("\n"), truth(2), {Kind: 4},
}

func someValue(next func(n int) int) api.Value { return samples[next(len(samples))] }

func someRow(next func(n int) int) []api.Value {
	var r []api.Value
	for range next(6) {
		r = append(r, someValue(next))
	}
	return r
}

// operators are those with arguments.
var operators = []int{
	api.OpNot, api.OpAnd, api.OpOr, api.OpEq, api.OpNe, api.OpLt, api.OpLe, api.OpGt, api.OpGe, api.OpAdd, api.OpSub, api.OpMul, api.OpDiv, api.OpMod,
	api.OpNeg, api.OpConcat, api.OpLength, api.OpIsNull, api.OpIf, api.OpCoalesce, api.OpAllen, api.OpNot, api.OpAnd, api.OpOr, api.OpIf, api.OpCoalesce, api.OpName,
}

// someExpr returns an expression of at most so many levels: any operators, often with a right number of arguments, now and then with other fields.
func someExpr(next func(n int) int, levels int) api.Expr {
	if levels <= 1 || next(6) == 0 {
		return damaged(next, someLeaf(next))
	}
	e := api.Expr{Op: operators[next(len(operators))]}
	for _, err := expr.Check(e, nil); err == api.ErrInvalid && len(e.Args) < 4; _, err = expr.Check(e, nil) {
		e.Args = append(e.Args, null())
	}
	if e.Op == api.OpAnd || e.Op == api.OpOr || e.Op == api.OpCoalesce {
		e.Args = append(e.Args, make([]api.Expr, next(3))...)
	}
	for i := range e.Args {
		e.Args[i] = someExpr(next, levels-1)
	}
	return damaged(next, e)
}

func someLeaf(next func(n int) int) api.Expr {
	if next(2) == 0 {
		return con(someValue(next))
	}
	return col(next(6) - 1)
}

// damaged returns e, now and then with a fault.
func damaged(next func(n int) int, e api.Expr) api.Expr {
	switch next(50) {
	case 0:
		e.Op = next(40)
	case 1:
		e.Int = next(9) - 3
	case 2:
		e.Value = someValue(next)
	case 3:
		e.Name = "a"
	case 4:
		e.Args = append(e.Args, someLeaf(next))
	}
	return e
}

// somePredicate returns nested conjunctions of conditions, equations and other expressions.
func somePredicate(next func(n int) int, levels int) api.Expr {
	if levels > 1 && next(3) > 0 {
		var l []api.Expr
		for range 1 + next(4) {
			l = append(l, somePredicate(next, levels-1))
		}
		return damaged(next, and(l...))
	}
	o := comparisons[next(len(comparisons))]
	switch next(9) {
	case 0:
		return someExpr(next, 2)
	case 1:
		return damaged(next, op(api.OpEq, col(next(5)-1), col(next(5)-1)))
	case 2:
		return damaged(next, op(o, someLeaf(next), someLeaf(next)))
	case 3, 4:
		return damaged(next, op(o, con(someValue(next)), col(next(4))))
	}
	return damaged(next, op(o, col(next(4)), con(someValue(next))))
}

// fixed are the kinds of the columns of typed expressions.
var fixed = []int{api.KindInt, api.KindText, api.KindBool, api.KindInt}

// typed returns an expression of at most so many levels which has the kind given or KindNull over the columns of the kinds fixed.
func typed(next func(n int) int, kind, levels int) api.Expr {
	if levels <= 1 || next(6) == 0 {
		return typedLeaf(next, kind)
	}
	of := func(kind int) api.Expr { return typed(next, kind, levels-1) }
	switch alike := 1 + next(3); {
	case next(5) == 0:
		return op(api.OpIf, of(api.KindBool), of(kind), of(kind))
	case next(5) == 0:
		return op(api.OpCoalesce, [][]api.Expr{{of(kind)}, {of(kind), of(kind)}, {of(kind), of(kind), of(kind)}}[next(3)]...)
	case kind == api.KindText:
		return op(api.OpConcat, of(kind), of(kind))
	case kind == api.KindInt:
		return []api.Expr{op(api.OpAdd+next(5), of(kind), of(kind)), op(api.OpNeg, of(kind)), op(api.OpLength, of(api.KindText))}[next(3)]
	case next(2) == 0:
		return op(api.OpEq+next(6), of(alike), of(alike))
	}
	i := of(api.KindInt)
	relation := api.Expr{Op: api.OpAllen, Int: next(13), Args: []api.Expr{i, of(api.KindInt), num(2), num(5)}}
	l := []api.Expr{op(api.OpNot, of(kind)), and(of(kind), of(kind)), op(api.OpOr, of(kind), of(kind)), and(of(kind), of(kind), of(kind)), op(api.OpOr, of(kind), of(kind), of(kind)), op(api.OpIsNull, of(1+next(3))), relation}
	return l[next(len(l))]
}

func typedLeaf(next func(n int) int, kind int) api.Expr {
	if i := next(len(fixed)); fixed[i] == kind {
		return col(i)
	}
	for {
		if v := someValue(next); isValid(v) && (v.Kind == kind || v.Kind == api.KindNull) {
			return con(v)
		}
	}
}
