package expr_test

import (
	"math/big"
	"slices"
	"strings"

	"bitemporal/api"
)

// random returns a function that continues a fixed sequence of numbers from 0 to n - 1.
func random(seed uint64) func(n int) int {
	return func(n int) int {
		seed = seed*6364136223846793005 + 1442695040888963407
		return int(seed >> 33 % uint64(n))
	}
}

func number(n int) api.Value  { return api.Value{Kind: api.KindInt, Int: n} }
func word(s string) api.Value { return api.Value{Kind: api.KindText, Text: s} }
func truth(n int) api.Value   { return api.Value{Kind: api.KindBool, Int: n} }

func con(v api.Value) api.Expr { return api.Expr{Op: api.OpConst, Value: v} }
func num(n int) api.Expr       { return con(number(n)) }
func str(s string) api.Expr    { return con(word(s)) }
func yes() api.Expr            { return con(truth(1)) }
func no() api.Expr             { return con(truth(0)) }
func null() api.Expr           { return con(api.Value{}) }
func col(i int) api.Expr       { return api.Expr{Op: api.OpColumn, Int: i} }

func op(o int, l ...api.Expr) api.Expr { return api.Expr{Op: o, Args: l} }

// allen is the relation rel between the periods from a to b and from c to d.
func allen(rel int, a, b, c, d api.Expr) api.Expr {
	return api.Expr{Op: api.OpAllen, Int: rel, Args: []api.Expr{a, b, c, d}}
}

// rule is a line of the chapter's table of operators. Each kind is a letter: i, t and b for those of values, = for equal ones, * for any; the last one stands for all further arguments.
type rule struct {
	op, least, most int
	args, result    string
}

// table is the chapter's table of operators.
var table = rules()

func rules() []rule {
	const most = 1 << 30
	l := []rule{
		{api.OpConst, 0, 0, "", ""}, {api.OpColumn, 0, 0, "", ""},
		{api.OpNot, 1, 1, "b", "b"}, {api.OpAnd, 2, most, "b", "b"}, {api.OpOr, 2, most, "b", "b"},
		{api.OpNeg, 1, 1, "i", "i"}, {api.OpConcat, 2, 2, "t", "t"}, {api.OpLength, 1, 1, "t", "i"}, {api.OpIsNull, 1, 1, "*", "b"},
		{api.OpIf, 3, 3, "b=", "="}, {api.OpCoalesce, 1, most, "=", "="}, {api.OpAllen, 4, 4, "i", "b"},
	}
	for _, o := range []int{api.OpEq, api.OpNe, api.OpLt, api.OpLe, api.OpGt, api.OpGe} {
		l = append(l, rule{o, 2, 2, "=", "b"})
	}
	for _, o := range []int{api.OpAdd, api.OpSub, api.OpMul, api.OpDiv, api.OpMod} {
		l = append(l, rule{o, 2, 2, "i", "i"})
	}
	return l
}

// ruleOf returns the rule of an operator, and whether the operator is in the table.
func ruleOf(o int) (rule, bool) {
	for _, r := range table {
		if r.op == o {
			return r, true
		}
	}
	return rule{}, false
}

// letters are the kinds of values by their letters; equal returns the letter that some letters have in common, where n is the null's, and false if there are several.
const letters = "nitb"

func equal(l string) (string, bool) {
	l = strings.ReplaceAll(l, "n", "")
	if l == "" {
		return "n", true
	}
	return l[:1], strings.Trim(l, l[:1]) == ""
}

// isValid is the definition of a valid value.
func isValid(v api.Value) bool {
	for i := range len(v.Text) {
		if v.Text[i] < 32 || v.Text[i] > 126 {
			return false
		}
	}
	switch v.Kind {
	case api.KindNull:
		return v == api.Value{}
	case api.KindInt:
		return v.Text == "" && v.Int >= -1<<50 && v.Int <= 1<<50
	case api.KindText:
		return v.Int == 0 && len(v.Text) <= 200
	case api.KindBool:
		return v.Text == "" && (v.Int == 0 || v.Int == 1)
	}
	return false
}

// formError is the definition of the errors of an expression before those of its columns and its arguments.
func formError(e api.Expr) api.Errno {
	r, known := ruleOf(e.Op)
	if !known {
		return api.ErrKind
	}
	own := api.Expr{Op: e.Op}
	switch e.Op {
	case api.OpConst:
		own.Value = e.Value
	case api.OpColumn, api.OpAllen:
		own.Int = e.Int
	}
	if e.Int != own.Int || e.Value != own.Value || e.Name != "" || len(e.Args) < r.least || len(e.Args) > r.most {
		return api.ErrInvalid
	}
	if !isValid(own.Value) || e.Op == api.OpAllen && (e.Int < 0 || e.Int > 12) {
		return api.ErrInvalid
	}
	return api.OK
}

// depth is the definition of the depth.
func depth(e api.Expr) int {
	d := 0
	for _, a := range e.Args {
		d = max(d, depth(a))
	}
	return d + 1
}

// check is the definition of Check.
func check(e api.Expr, kinds []int) (int, api.Errno) {
	if depth(e) > 24 {
		return 0, api.ErrDepth
	}
	letter, err := checkLetter(e, kinds)
	if err != api.OK {
		return 0, err
	}
	return strings.Index(letters, letter), api.OK
}

func checkLetter(e api.Expr, kinds []int) (string, api.Errno) {
	if err := formError(e); err != api.OK {
		return "", err
	}
	if e.Op == api.OpConst {
		return letters[e.Value.Kind : e.Value.Kind+1], api.OK
	}
	if e.Op == api.OpColumn {
		if e.Int < 0 || e.Int >= len(kinds) {
			return "", api.ErrColumns
		}
		return letters[kinds[e.Int] : kinds[e.Int]+1], api.OK
	}
	var args []string
	for _, a := range e.Args {
		letter, err := checkLetter(a, kinds)
		if err != api.OK {
			return "", err
		}
		args = append(args, letter)
	}
	r, _ := ruleOf(e.Op)
	alike := ""
	for i, letter := range args {
		switch demanded := r.args[min(i, len(r.args)-1):][:1]; demanded {
		case "*":
		case "=":
			alike += letter
		default:
			if letter != "n" && letter != demanded {
				return "", api.ErrKind
			}
		}
	}
	common, is := equal(alike)
	if !is {
		return "", api.ErrKind
	}
	if r.result == "=" {
		return common, api.OK
	}
	return r.result, api.OK
}

// eval is the definition of the value of an expression.
func eval(e api.Expr, row []api.Value) api.Value {
	if formError(e) != api.OK {
		return api.Value{}
	}
	var l []api.Value
	for _, a := range e.Args {
		l = append(l, eval(a, row))
	}
	switch e.Op {
	case api.OpConst:
		return e.Value
	case api.OpColumn:
		if e.Int >= 0 && e.Int < len(row) && isValid(row[e.Int]) {
			return row[e.Int]
		}
	case api.OpNot, api.OpAnd, api.OpOr:
		return junction(e.Op, l)
	case api.OpEq, api.OpNe, api.OpLt, api.OpLe, api.OpGt, api.OpGe:
		return compared(e.Op, l[0], l[1])
	case api.OpAdd, api.OpSub, api.OpMul, api.OpDiv, api.OpMod:
		return computed(e.Op, l[0], l[1])
	case api.OpNeg:
		return computed(api.OpMul, number(-1), l[0])
	case api.OpConcat:
		if s := l[0].Text + l[1].Text; l[0].Kind == api.KindText && l[1].Kind == api.KindText && len(s) <= 200 {
			return word(s)
		}
	case api.OpLength:
		if l[0].Kind == api.KindText {
			return number(len(l[0].Text))
		}
	case api.OpIsNull:
		return boolean(l[0] == api.Value{})
	case api.OpIf:
		if l[0] == truth(1) {
			return l[1]
		}
		return l[2]
	case api.OpCoalesce:
		for _, v := range l {
			if v != (api.Value{}) {
				return v
			}
		}
	case api.OpAllen:
		return related(e.Int, l)
	}
	return api.Value{}
}

func boolean(b bool) api.Value {
	if b {
		return truth(1)
	}
	return truth(0)
}

// junction is the definition of OpNot, OpAnd and OpOr, by counting.
func junction(o int, l []api.Value) api.Value {
	count := map[api.Value]int{}
	for _, v := range l {
		count[v]++
	}
	f, t := count[truth(0)], count[truth(1)]
	switch {
	case o == api.OpNot && f+t == 1:
		return boolean(f == 1)
	case o == api.OpAnd && (f > 0 || t == len(l)):
		return boolean(f == 0)
	case o == api.OpOr && (t > 0 || f == len(l)):
		return boolean(t > 0)
	}
	return api.Value{}
}

// compared is the definition of the comparisons.
func compared(o int, a, b api.Value) api.Value {
	if a.Kind != b.Kind || a.Kind == api.KindNull {
		return api.Value{}
	}
	sign := strings.Compare(a.Text, b.Text)
	if a.Kind != api.KindText {
		sign = big.NewInt(int64(a.Int)).Cmp(big.NewInt(int64(b.Int)))
	}
	signs := map[int][]int{api.OpEq: {0}, api.OpNe: {-1, 1}, api.OpLt: {-1}, api.OpLe: {-1, 0}, api.OpGt: {1}, api.OpGe: {0, 1}}
	return boolean(slices.Contains(signs[o], sign))
}

// computed is the definition of the operations on integers.
func computed(o int, a, b api.Value) api.Value {
	if a.Kind != api.KindInt || b.Kind != api.KindInt {
		return api.Value{}
	}
	x, y, z := big.NewInt(int64(a.Int)), big.NewInt(int64(b.Int)), new(big.Int)
	switch {
	case o == api.OpAdd:
		z.Add(x, y)
	case o == api.OpSub:
		z.Sub(x, y)
	case o == api.OpMul:
		z.Mul(x, y)
	case y.Sign() == 0:
		return api.Value{}
	case o == api.OpDiv:
		z.Quo(x, y)
	case o == api.OpMod:
		z.Rem(x, y)
	}
	if new(big.Int).Abs(z).Cmp(big.NewInt(1<<50)) > 0 {
		return api.Value{}
	}
	return number(int(z.Int64()))
}

// related is the definition of OpAllen, by the conditions of chapter 2.
func related(rel int, l []api.Value) api.Value {
	for _, v := range l {
		if v.Kind != api.KindInt {
			return api.Value{}
		}
	}
	a, b, c, d := l[0].Int, l[1].Int, l[2].Int, l[3].Int
	if a < 0 || a >= b || b > 1<<40 || c < 0 || c >= d || d > 1<<40 {
		return api.Value{}
	}
	return boolean([]bool{
		b < c, b == c, a < c && c < b && b < d, a == c && b < d, c < a && b < d, b == d && c < a, a == c && b == d,
		b == d && a < c, a < c && d < b, a == c && d < b, c < a && a < d && d < b, d == a, d < a,
	}[rel])
}

// samples are values of all kinds, and at the end some that are not valid.
var samples = []api.Value{
	{}, number(0), number(1), number(2), number(3), number(7), number(-1), number(-2), number(-7), number(1 << 25), number(1 << 40), number(1 << 50), number(-1 << 50), number(1<<50 - 1),
	word(""), word("a"), word("ab"), word("b"), word(strings.Repeat("x", 199)), word(strings.Repeat("x", 200)), truth(0), truth(1), truth(0), truth(1), {},
	{Int: 1}, {Text: "a"}, number(1<<50 + 1), {Kind: api.KindInt, Int: 1, Text: "a"}, word("\n"), word(strings.Repeat("x", 201)), {Kind: api.KindText, Int: 1}, truth(2), {Kind: 4}, {Kind: -1},
}

// someValue returns one of the samples.
func someValue(next func(n int) int) api.Value { return samples[next(len(samples))] }

// validValue returns a null or a valid value of a kind.
func validValue(next func(n int) int, kind int) api.Value {
	for {
		if v := someValue(next); isValid(v) && (v.Kind == kind || v.Kind == api.KindNull) {
			return v
		}
	}
}

func someRow(next func(n int) int) []api.Value {
	var r []api.Value
	for range next(5) {
		r = append(r, someValue(next))
	}
	return r
}

// rowOf returns a row that fits the kinds.
func rowOf(next func(n int) int, kinds []int) []api.Value {
	var r []api.Value
	for _, k := range kinds {
		r = append(r, validValue(next, k))
	}
	return r
}

// someExpr returns an expression of at most so many levels: any operators, now and then with a wrong number of arguments or other fields.
func someExpr(next func(n int) int, levels int) api.Expr {
	if levels <= 1 || next(6) == 0 {
		return someLeaf(next)
	}
	l := table[2:]
	r := l[next(len(l))]
	e := api.Expr{Op: r.op}
	for range min(r.most, r.least+next(3)) {
		e.Args = append(e.Args, someExpr(next, levels-1))
	}
	if e.Op == api.OpAllen {
		e.Int = next(13)
	}
	return damaged(next, e)
}

func someLeaf(next func(n int) int) api.Expr {
	if next(3) == 0 {
		return damaged(next, con(someValue(next)))
	}
	return damaged(next, col(next(6)-1))
}

// damaged returns e, now and then with a fault.
func damaged(next func(n int) int, e api.Expr) api.Expr {
	switch next(60) {
	case 0:
		e.Op = []int{0, -1, api.OpName, api.OpRelate, api.OpPeriod, api.OpPeriod + 1, 1 << 40}[next(7)]
	case 1:
		e.Int = next(40) - 10
	case 2:
		e.Value = someValue(next)
	case 3:
		e.Name = "a"
	case 4:
		e.Args = append(e.Args, someLeaf(next))
	case 5:
		e.Args = e.Args[:len(e.Args)/2]
	}
	return e
}

// typed returns an expression of at most so many levels which has the kind given or KindNull over the columns.
func typed(next func(n int) int, kind, levels int, kinds []int) api.Expr {
	if levels <= 1 || next(7) == 0 {
		return typedLeaf(next, kind, kinds)
	}
	var l []rule
	for _, r := range table[2:] {
		if r.result == "=" || r.result == letters[kind:kind+1] {
			l = append(l, r)
		}
	}
	r := l[next(len(l))]
	e := api.Expr{Op: r.op}
	alike := kind
	if r.result != "=" {
		alike = 1 + next(3)
	}
	for i := range min(r.most, r.least+next(3)) {
		demanded := strings.Index(letters, r.args[min(i, len(r.args)-1):][:1])
		if demanded < 0 {
			demanded = alike
		}
		e.Args = append(e.Args, typed(next, demanded, levels-1, kinds))
	}
	if e.Op == api.OpAllen {
		e.Int = next(13)
	}
	return e
}

func typedLeaf(next func(n int) int, kind int, kinds []int) api.Expr {
	if i := next(len(kinds)); kinds[i] == kind {
		return col(i)
	}
	return con(validValue(next, kind))
}
