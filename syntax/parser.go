package syntax

import (
	"bitemporal/api"
	"bitemporal/lexer"
)

// parser reads tokens. The last one has no kind and stands for the end of the text.
type parser struct {
	tokens []api.Token
	next   int
	deep   bool // an expression or a query was too deep
}

// failure is what the parser panics with at the first error.
type failure struct {
	at  int
	err api.Errno
}

func newParser(s string) *parser {
	tokens, at, err := lexer.Tokens(s)
	if err != api.OK {
		panic(failure{at, err})
	}
	return &parser{tokens: append(tokens, api.Token{At: len(s)})}
}

func (p *parser) token() api.Token { return p.tokens[p.next] }

func (p *parser) ended() bool { return p.token().Kind == 0 }

// unexpected returns the failure of a text that the next token cannot continue.
func (p *parser) unexpected() failure {
	if p.ended() {
		return failure{p.token().At, api.ErrTruncated}
	}
	return failure{p.token().At, api.ErrSyntax}
}

// mark returns the next token if it is a keyword or a symbol, and otherwise nothing.
func (p *parser) mark() string { return mark(p.token()) }

func mark(t api.Token) string {
	if t.Kind == api.TokenWord || t.Kind == api.TokenSymbol {
		return t.Text
	}
	return ""
}

// has reads the keyword or symbol m if it is next, and reports whether it was.
func (p *parser) has(m string) bool {
	if p.mark() != m {
		return false
	}
	p.next++
	return true
}

// need reads keywords and symbols that must be next.
func (p *parser) need(marks ...string) {
	for _, m := range marks {
		if !p.has(m) {
			panic(p.unexpected())
		}
	}
}

// take reads a token of a kind, which must be next.
func (p *parser) take(kind int) api.Token {
	t := p.token()
	if t.Kind != kind {
		panic(p.unexpected())
	}
	p.next++
	return t
}

func (p *parser) name() string { return p.take(api.TokenName).Text }

func (p *parser) number() int { return p.take(api.TokenNumber).Int }

// list reads one or more parts, with commas between them.
func list[T any](p *parser, part func(*parser) T) []T {
	l := []T{part(p)}
	for p.has(",") {
		l = append(l, part(p))
	}
	return l
}

// inParentheses reads a part between parentheses.
func inParentheses[T any](p *parser, part func(*parser) T) T {
	p.need("(")
	result := part(p)
	p.need(")")
	return result
}
