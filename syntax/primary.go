package syntax

import (
	"bitemporal/api"
	"bitemporal/value"
)

// primary reads an operand.
func (p *parser) primary() api.Expr {
	if p.token().Kind == api.TokenName {
		return p.reference()
	}
	switch m := p.mark(); m {
	case "(":
		return inParentheses(p, (*parser).disjunction)
	case "IF", "COALESCE", "LENGTH":
		return p.call()
	case "VALIDFROM", "VALIDTO", "SYSTEMFROM", "SYSTEMTO", "TX":
		p.next++
		return api.Expr{Op: api.OpPeriod, Int: bound(m), Name: inParentheses(p, (*parser).name)}
	}
	return constant(p.unsigned())
}

// reference reads name ["." name].
func (p *parser) reference() api.Expr {
	e := p.plainName()
	if p.has(".") {
		e.Name += "." + p.name()
	}
	return e
}

// call reads a function with its arguments.
func (p *parser) call() api.Expr {
	if p.has("COALESCE") {
		return operation(api.OpCoalesce, inParentheses(p, (*parser).disjunctions)...)
	}
	if p.has("LENGTH") {
		return operation(api.OpLength, inParentheses(p, (*parser).disjunction))
	}
	p.need("IF")
	return operation(api.OpIf, inParentheses(p, (*parser).three)...)
}

func (p *parser) disjunctions() []api.Expr { return list(p, (*parser).disjunction) }

// three reads expr "," expr "," expr.
func (p *parser) three() []api.Expr {
	l := []api.Expr{p.disjunction()}
	for len(l) < 3 {
		p.need(",")
		l = append(l, p.disjunction())
	}
	return l
}

// bound returns the bound that a keyword names.
func bound(m string) int {
	switch m {
	case "VALIDFROM":
		return api.BoundValidFrom
	case "VALIDTO":
		return api.BoundValidTo
	case "SYSTEMFROM":
		return api.BoundSystemFrom
	case "SYSTEMTO":
		return api.BoundSystemTo
	}
	return api.BoundBy
}

// literal reads a value.
func (p *parser) literal() api.Value {
	if p.has("-") {
		return value.Int(-p.number())
	}
	return p.unsigned()
}

// unsigned reads a literal without "-".
func (p *parser) unsigned() api.Value {
	t := p.token()
	v, ok := valueOf(t)
	if !ok {
		panic(p.unexpected())
	}
	p.next++
	return v
}

// valueOf returns the value of a token, and whether it is a literal.
func valueOf(t api.Token) (api.Value, bool) {
	switch t.Kind {
	case api.TokenNumber:
		return value.Int(t.Int), true
	case api.TokenText:
		return value.Text(t.Text), true
	}
	switch mark(t) {
	case "NULL":
		return value.Null(), true
	case "TRUE":
		return value.Bool(true), true
	case "FALSE":
		return value.Bool(false), true
	}
	return api.Value{}, false
}
