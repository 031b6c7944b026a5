package syntax

import (
	"bitemporal/allen"
	"bitemporal/api"
	"bitemporal/expr"
	"bitemporal/value"
)

// expression reads an expression that is no part of another one.
func (p *parser) expression() api.Expr {
	e := p.disjunction()
	p.deep = p.deep || expr.Depth(e) > api.MaxDepth
	return e
}

// disjunction reads and {OR and}.
func (p *parser) disjunction() api.Expr {
	l := []api.Expr{p.conjunction()}
	for p.has("OR") {
		l = append(l, p.conjunction())
	}
	return joined(api.OpOr, l)
}

// conjunction reads not {AND not}.
func (p *parser) conjunction() api.Expr {
	l := []api.Expr{p.negation()}
	for p.has("AND") {
		l = append(l, p.negation())
	}
	return joined(api.OpAnd, l)
}

func joined(op int, l []api.Expr) api.Expr {
	if len(l) == 1 {
		return l[0]
	}
	return api.Expr{Op: op, Args: l}
}

// negation reads NOT not | compare.
func (p *parser) negation() api.Expr {
	if p.has("NOT") {
		return operation(api.OpNot, p.negation())
	}
	return p.comparison()
}

func operation(op int, args ...api.Expr) api.Expr { return api.Expr{Op: op, Args: args} }

// comparison reads name relation name | sum [comparison operator sum | IS [NOT] NULL].
func (p *parser) comparison() api.Expr {
	if rel := p.relation(); rel >= 0 {
		first := p.plainName()
		p.next++
		return api.Expr{Op: api.OpRelate, Int: rel, Args: []api.Expr{first, p.plainName()}}
	}
	left := p.sum()
	if p.has("IS") {
		return p.null(left)
	}
	if op := comparing(p.mark()); op != 0 {
		p.next++
		return operation(op, left, p.sum())
	}
	return left
}

// relation returns the relation that follows if a name is next, or -1.
func (p *parser) relation() int {
	if p.token().Kind != api.TokenName {
		return -1
	}
	return allen.Find(mark(p.tokens[p.next+1]))
}

// plainName reads a name as an expression.
func (p *parser) plainName() api.Expr { return api.Expr{Op: api.OpName, Name: p.name()} }

// null reads [NOT] NULL.
func (p *parser) null(e api.Expr) api.Expr {
	negated := p.has("NOT")
	p.need("NULL")
	isNull := operation(api.OpIsNull, e)
	if negated {
		return operation(api.OpNot, isNull)
	}
	return isNull
}

// comparing returns the comparison with a mark, or 0.
func comparing(m string) int {
	switch m {
	case "=":
		return api.OpEq
	case "<>":
		return api.OpNe
	case "<":
		return api.OpLt
	case "<=":
		return api.OpLe
	case ">":
		return api.OpGt
	case ">=":
		return api.OpGe
	}
	return 0
}

// sum reads product {("+" | "-" | "||") product}.
func (p *parser) sum() api.Expr {
	e := p.product()
	for op := adding(p.mark()); op != 0; op = adding(p.mark()) {
		p.next++
		e = operation(op, e, p.product())
	}
	return e
}

func adding(m string) int {
	switch m {
	case "+":
		return api.OpAdd
	case "-":
		return api.OpSub
	case "||":
		return api.OpConcat
	}
	return 0
}

// product reads unary {("*" | "/" | "%") unary}.
func (p *parser) product() api.Expr {
	e := p.unary()
	for op := multiplying(p.mark()); op != 0; op = multiplying(p.mark()) {
		p.next++
		e = operation(op, e, p.unary())
	}
	return e
}

func multiplying(m string) int {
	switch m {
	case "*":
		return api.OpMul
	case "/":
		return api.OpDiv
	case "%":
		return api.OpMod
	}
	return 0
}

// unary reads "-" number | "-" unary | primary.
func (p *parser) unary() api.Expr {
	if !p.has("-") {
		return p.primary()
	}
	if p.token().Kind == api.TokenNumber {
		return constant(value.Int(-p.number()))
	}
	return operation(api.OpNeg, p.unary())
}

func constant(v api.Value) api.Expr { return api.Expr{Op: api.OpConst, Value: v} }
