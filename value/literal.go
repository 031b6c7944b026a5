package value

import (
	"strconv"
	"strings"

	"bitemporal/api"
)

const (
	null    = "NULL"
	yes     = "TRUE"
	no      = "FALSE"
	quote   = "'"
	escaped = quote + quote
	digits  = "0123456789"
)

// Literal returns the literal of a value.
func Literal(v api.Value) string {
	switch {
	case !Valid(v):
		return ""
	case v == Null():
		return null
	case v == Bool(true):
		return yes
	case v == Bool(false):
		return no
	case v.Kind == api.KindText:
		return quoted(v.Text)
	}
	return strconv.Itoa(v.Int)
}

func quoted(s string) string {
	return quote + strings.ReplaceAll(s, quote, escaped) + quote
}

// Parse returns the value of a literal.
func Parse(s string) (api.Value, api.Errno) {
	switch s {
	case null:
		return Null(), api.OK
	case yes:
		return Bool(true), api.OK
	case no:
		return Bool(false), api.OK
	}
	if strings.HasPrefix(s, quote) {
		return parseText(s)
	}
	return parseNumber(s)
}

// parseText returns the text whose literal is s, which begins with a quote.
func parseText(s string) (api.Value, api.Errno) {
	inner := strings.TrimSuffix(strings.TrimPrefix(s, quote), quote)
	text := strings.ReplaceAll(inner, escaped, quote)
	// The literal of the text shows whether s lacks a quote at its end or within.
	if quoted(text) != s || !isPrintable(text) {
		return api.Value{}, api.ErrSyntax
	}
	if len(text) > api.MaxText {
		return api.Value{}, api.ErrTooLong
	}
	return Text(text), api.OK
}

func parseNumber(s string) (api.Value, api.Errno) {
	if !isNumber(s) {
		return api.Value{}, api.ErrSyntax
	}
	n, err := strconv.Atoi(s)
	if v := Int(n); err == nil && v != Null() {
		return v, api.OK
	}
	return api.Value{}, api.ErrRange
}

// isNumber reports whether s has the one form in which a number is written, whatever its size.
func isNumber(s string) bool {
	absolute := strings.TrimPrefix(s, "-")
	if strings.HasPrefix(absolute, "0") {
		return s == "0"
	}
	return absolute != "" && strings.Trim(absolute, digits) == ""
}
