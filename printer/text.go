package printer

import (
	"strings"

	"bitemporal/api"
)

// writer writes what is printable. It keeps the words of the operators, so that they are collected once.
type writer struct{ words map[int]string }

func newWriter() *writer {
	return &writer{map[int]string{
		api.OpNot: "NOT", api.OpAnd: "AND", api.OpOr: "OR",
		api.OpEq: "=", api.OpNe: "<>", api.OpLt: "<", api.OpLe: "<=", api.OpGt: ">", api.OpGe: ">=",
		api.OpAdd: "+", api.OpSub: "-", api.OpMul: "*", api.OpDiv: "/", api.OpMod: "%", api.OpNeg: "-",
		api.OpConcat: "||", api.OpLength: "LENGTH", api.OpIsNull: "IS NULL", api.OpIf: "IF", api.OpCoalesce: "COALESCE",
	}}
}

// spaced joins the texts that are not empty with single spaces.
func spaced(texts ...string) string {
	var b strings.Builder
	for _, t := range texts {
		if t != "" && b.Len() > 0 {
			b.WriteByte(' ')
		}
		b.WriteString(t)
	}
	return b.String()
}

// list writes the elements of a list with commas between them.
func list[T any](l []T, text func(T) string) string {
	texts := make([]string, len(l))
	for i, x := range l {
		texts[i] = text(x)
	}
	return strings.Join(texts, ", ")
}

func inParentheses(text string) string { return "(" + text + ")" }

// when returns a text if it applies.
func when(applies bool, text string) string {
	if applies {
		return text
	}
	return ""
}
