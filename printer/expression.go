package printer

import (
	"strings"

	"bitemporal/allen"
	"bitemporal/api"
	"bitemporal/value"
)

// The levels of expressions: an operand is in parentheses if its level is less than its operator requires.
const (
	levelOr = iota + 1
	levelAnd
	levelNot
	levelCompare
	levelSum
	levelProduct
	levelSign
	levelPrimary
)

// expression writes an expression.
func (w *writer) expression(e api.Expr) string {
	switch e.Op {
	case api.OpConst:
		return value.Literal(e.Value)
	case api.OpName:
		return e.Name
	case api.OpPeriod:
		return bound(e.Int) + inParentheses(e.Name)
	case api.OpRelate:
		return spaced(e.Args[0].Name, allen.Name(e.Int), e.Args[1].Name)
	case api.OpIf, api.OpCoalesce, api.OpLength:
		return w.words[e.Op] + inParentheses(list(e.Args, w.expression))
	case api.OpNot:
		return spaced(w.words[e.Op], w.operand(e.Args[0], levelNot))
	case api.OpNeg:
		return w.words[e.Op] + w.negated(e.Args[0])
	case api.OpIsNull:
		return spaced(w.operand(e.Args[0], levelSum), w.words[e.Op])
	}
	return w.chain(e)
}

// operand writes an expression that must have a level.
func (w *writer) operand(e api.Expr, least int) string {
	text := w.expression(e)
	if level(e) < least {
		return inParentheses(text)
	}
	return text
}

// negated writes the operand of OpNeg. An integer without parentheses would become a constant with the sign.
func (w *writer) negated(e api.Expr) string {
	if e.Op == api.OpConst && e.Value.Kind == api.KindInt {
		return inParentheses(w.expression(e))
	}
	return w.operand(e, levelPrimary)
}

// chain writes operands with their operator between them. From the left, sums and products need no parentheses.
func (w *writer) chain(e api.Expr) string {
	least := level(e)
	if least <= levelCompare {
		least++
	}
	texts := make([]string, len(e.Args))
	for i, a := range e.Args {
		texts[i] = w.operand(a, least)
		least = level(e) + 1
	}
	return strings.Join(texts, " "+w.words[e.Op]+" ")
}

// level returns the level of e, but for negative integers, whose level is that of OpNeg: only OpNeg requires more than
// that, and it has all integers in parentheses.
func level(e api.Expr) int {
	switch e.Op {
	case api.OpOr:
		return levelOr
	case api.OpAnd:
		return levelAnd
	case api.OpNot:
		return levelNot
	case api.OpEq, api.OpNe, api.OpLt, api.OpLe, api.OpGt, api.OpGe, api.OpIsNull, api.OpRelate:
		return levelCompare
	case api.OpAdd, api.OpSub, api.OpConcat:
		return levelSum
	case api.OpMul, api.OpDiv, api.OpMod:
		return levelProduct
	case api.OpNeg:
		return levelSign
	}
	return levelPrimary
}

// bound returns the keyword of a bound.
func bound(n int) string {
	return [api.Bounds]string{"VALIDFROM", "VALIDTO", "SYSTEMFROM", "SYSTEMTO", "TX"}[n]
}
