package lexer

import (
	"strconv"
	"strings"

	"bitemporal/api"
)

// failure is what a scan panics with at the token that begins at at.
type failure struct {
	at  int
	err api.Errno
}

// scan returns the token that begins at at, and its end.
func scan(s string, at int) (api.Token, int) {
	switch c := s[at]; {
	case beginsWord(c):
		return scanWord(s, at)
	case isDigit(c):
		return scanNumber(s, at)
	case c == '\'':
		return scanText(s, at)
	}
	return scanSymbol(s, at)
}

func scanWord(s string, at int) (api.Token, int) {
	next := end(s, at, continuesWord)
	word := s[at:next]
	if Word(word) {
		return api.Token{Kind: api.TokenWord, Text: strings.ToUpper(word), At: at}, next
	}
	if err := named(word); err != api.OK {
		panic(failure{at, err})
	}
	return api.Token{Kind: api.TokenName, Text: word, At: at}, next
}

func scanNumber(s string, at int) (api.Token, int) {
	next := end(s, at, isDigit)
	if s[at] == '0' && next > at+1 || next < len(s) && beginsWord(s[next]) {
		panic(failure{at, api.ErrSyntax})
	}
	n, err := strconv.Atoi(s[at:next])
	if err != nil || n > api.MaxNumber {
		panic(failure{at, api.ErrRange})
	}
	return api.Token{Kind: api.TokenNumber, Int: n, At: at}, next
}

// scanText examines the whole text first, as its bytes come before its end, and this before its length.
func scanText(s string, at int) (api.Token, int) {
	var text strings.Builder
	next := at + 1
	for next < len(s) {
		if s[next] == '\'' {
			next++
			if next == len(s) || s[next] != '\'' {
				return limited(text.String(), at), next
			}
		}
		if s[next] < 32 || s[next] > 126 {
			panic(failure{at, api.ErrSyntax})
		}
		text.WriteByte(s[next])
		next++
	}
	panic(failure{at, api.ErrTruncated})
}

// limited returns the token of a text.
func limited(text string, at int) api.Token {
	if len(text) > api.MaxText {
		panic(failure{at, api.ErrTooLong})
	}
	return api.Token{Kind: api.TokenText, Text: text, At: at}
}

func scanSymbol(s string, at int) (api.Token, int) {
	next := at + symbolLength(s[at:])
	if next == at {
		panic(failure{at, api.ErrSyntax})
	}
	return api.Token{Kind: api.TokenSymbol, Text: s[at:next], At: at}, next
}

// symbolLength returns the length of the longest symbol with which s begins, or 0.
func symbolLength(s string) int {
	for _, two := range []string{"<>", "<=", ">=", "||"} {
		if strings.HasPrefix(s, two) {
			return 2
		}
	}
	if strings.IndexByte("(),.;*=<>+-/%", s[0]) < 0 {
		return 0
	}
	return 1
}
