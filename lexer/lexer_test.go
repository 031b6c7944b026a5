package lexer_test

import (
	"reflect"
	"strings"
	"testing"

	"bitemporal/api"
	"bitemporal/lexer"
)

func name(s string, at int) api.Token {
	return api.Token{Kind: api.TokenName, Text: s, At: at}
}

func word(s string, at int) api.Token {
	return api.Token{Kind: api.TokenWord, Text: s, At: at}
}

func number(n, at int) api.Token {
	return api.Token{Kind: api.TokenNumber, Int: n, At: at}
}

func text(s string, at int) api.Token {
	return api.Token{Kind: api.TokenText, Text: s, At: at}
}

func symbol(s string, at int) api.Token {
	return api.Token{Kind: api.TokenSymbol, Text: s, At: at}
}

// checkTokens reports where Tokens(s) does not return these tokens.
func checkTokens(t *testing.T, s string, want ...api.Token) {
	t.Helper()
	l, at, err := lexer.Tokens(s)
	if at != 0 || err != api.OK || len(l) != len(want) {
		t.Errorf("Tokens(%.60q) = %v, %d, %d; want %v", s, l, at, err, want)
		return
	}
	for i, x := range want {
		if l[i] != x {
			t.Errorf("Tokens(%.60q)[%d] = %v, want %v", s, i, l[i], x)
		}
	}
}

// checkError reports where Tokens(s) does not return this error at this place.
func checkError(t *testing.T, s string, wantAt int, want api.Errno) {
	t.Helper()
	l, at, err := lexer.Tokens(s)
	if len(l) != 0 || at != wantAt || err != want {
		t.Errorf("Tokens(%.60q) = %v, %d, %d; want none, %d, %d", s, l, at, err, wantAt, want)
	}
}

func TestTokens(t *testing.T) {
	checkTokens(t, "select a<>'it''s'", word("SELECT", 0), name("a", 7), symbol("<>", 8), text("it's", 10))
	checkTokens(t, "")
	checkTokens(t, " \t\n ")
	checkTokens(t, "a\tb\nc  d", name("a", 0), name("b", 2), name("c", 4), name("d", 7))
	checkTokens(t, "a.b_1,(7)", name("a", 0), symbol(".", 1), name("b_1", 2), symbol(",", 5), symbol("(", 6), number(7, 7), symbol(")", 8))
	checkTokens(t, "\n\nx ", name("x", 2))
}

func TestWordsAreTokensInAnyCase(t *testing.T) {
	for _, w := range lexer.Words() {
		lower := strings.ToLower(w)
		checkTokens(t, " "+w, word(w, 1))
		checkTokens(t, lower, word(w, 0))
		checkTokens(t, w[:1]+lower[1:], word(w, 0))
		checkTokens(t, lower[:1]+w[1:]+" "+lower, word(w, 0), word(w, len(w)+1))
	}
}

func TestWordsAreAsLongAsPossible(t *testing.T) {
	checkTokens(t, "selects", name("selects", 0))
	checkTokens(t, "select_", name("select_", 0))
	checkTokens(t, "_select", name("_select", 0))
	checkTokens(t, "select1", name("select1", 0))
	checkTokens(t, "int into inta", word("INT", 0), word("INTO", 4), name("inta", 9))
	checkTokens(t, "finishedby finishes", word("FINISHEDBY", 0), word("FINISHES", 11))
	checkTokens(t, "_", name("_", 0))
	checkTokens(t, "__0", name("__0", 0))
	checkTokens(t, "a'b'c", name("a", 0), text("b", 1), name("c", 4))
	checkTokens(t, "not(true)", word("NOT", 0), symbol("(", 3), word("TRUE", 4), symbol(")", 8))
}

func TestWordsThatAreNoNames(t *testing.T) {
	long := strings.Repeat("a", api.MaxName)
	checkTokens(t, long, name(long, 0))
	checkError(t, long+"a", 0, api.ErrTooLong)
	checkError(t, "x "+long+"0", 2, api.ErrTooLong)
	checkError(t, "a Bc", 2, api.ErrSyntax)
	checkError(t, "A", 0, api.ErrSyntax)
	checkError(t, "Z", 0, api.ErrSyntax)
	checkError(t, "aB", 0, api.ErrSyntax)
	checkError(t, "_Z", 0, api.ErrSyntax)
	checkError(t, "SELECTs", 0, api.ErrSyntax)
	checkError(t, "Select1", 0, api.ErrSyntax)
	checkError(t, "SELECT_", 0, api.ErrSyntax)
	checkError(t, long+"A", 0, api.ErrSyntax)
	checkError(t, "\u017felect", 0, api.ErrSyntax)
}

func TestNumbers(t *testing.T) {
	checkTokens(t, "0", number(0, 0))
	checkTokens(t, "9 10", number(9, 0), number(10, 2))
	checkTokens(t, "0 0", number(0, 0), number(0, 2))
	checkTokens(t, "-5", symbol("-", 0), number(5, 1))
	checkTokens(t, "1.2", number(1, 0), symbol(".", 1), number(2, 2))
	checkTokens(t, "1'a'", number(1, 0), text("a", 1))
	checkTokens(t, "1125899906842624", number(api.MaxNumber, 0))
	checkError(t, "1125899906842625", 0, api.ErrRange)
	checkError(t, "a 9223372036854775808", 2, api.ErrRange)
	checkError(t, "18446744073709551617", 0, api.ErrRange)
	checkError(t, strings.Repeat("9", 1000), 0, api.ErrRange)
	checkError(t, "00", 0, api.ErrSyntax)
	checkError(t, " 01", 1, api.ErrSyntax)
	checkError(t, "1a", 0, api.ErrSyntax)
	checkError(t, "1A", 0, api.ErrSyntax)
	checkError(t, "0_", 0, api.ErrSyntax)
	checkError(t, "1select", 0, api.ErrSyntax)
	checkError(t, "1125899906842625x", 0, api.ErrSyntax)
	checkError(t, "01125899906842625", 0, api.ErrSyntax)
}

func TestTexts(t *testing.T) {
	long := strings.Repeat("x", api.MaxText)
	checkTokens(t, "''", text("", 0))
	checkTokens(t, "''''", text("'", 0))
	checkTokens(t, "'' ''", text("", 0), text("", 3))
	checkTokens(t, "'a''''b'", text("a''b", 0))
	checkTokens(t, "' ~\"'", text(" ~\"", 0))
	checkTokens(t, "'SELECT ; --'", text("SELECT ; --", 0))
	checkTokens(t, "'"+long+"'", text(long, 0))
	checkTokens(t, "'"+strings.Repeat("''", api.MaxText)+"'", text(strings.Repeat("'", api.MaxText), 0))
	checkError(t, "'"+long+"x'", 0, api.ErrTooLong)
	checkError(t, "'"+strings.Repeat("''", api.MaxText+1)+"'", 0, api.ErrTooLong)
	checkError(t, "a 'b", 2, api.ErrTruncated)
	checkError(t, "'", 0, api.ErrTruncated)
	checkError(t, "'''", 0, api.ErrTruncated)
	checkError(t, "'a''", 0, api.ErrTruncated)
	checkError(t, "'a' '", 4, api.ErrTruncated)
	checkError(t, "'"+long+"xy", 0, api.ErrTruncated)
	checkError(t, "x 'a\nb'", 2, api.ErrSyntax)
	checkError(t, "'a\nb", 0, api.ErrSyntax)
	checkError(t, "'"+long+long+"\t'", 0, api.ErrSyntax)
	checkError(t, "'''\x00'", 0, api.ErrSyntax)
}

func TestBytesOfTexts(t *testing.T) {
	for c := range 256 {
		b := string([]byte{byte(c)})
		switch {
		case c == '\'':
			checkError(t, "x'"+b+"'", 1, api.ErrTruncated)
		case 32 <= c && c <= 126:
			checkTokens(t, "x'"+b+"'", name("x", 0), text(b, 1))
		default:
			checkError(t, "x'"+b+"'", 1, api.ErrSyntax)
		}
	}
}

func TestSymbols(t *testing.T) {
	symbols := []string{"<>", "<=", ">=", "||", "(", ")", ",", ".", ";", "*", "=", "<", ">", "+", "-", "/", "%"}
	for _, s := range symbols {
		checkTokens(t, s, symbol(s, 0))
		checkTokens(t, "a"+s+"1", name("a", 0), symbol(s, 1), number(1, 1+len(s)))
	}
	checkTokens(t, "<>=", symbol("<>", 0), symbol("=", 2))
	checkTokens(t, "<<=", symbol("<", 0), symbol("<=", 1))
	checkTokens(t, ">>==", symbol(">", 0), symbol(">=", 1), symbol("=", 3))
	checkTokens(t, "><", symbol(">", 0), symbol("<", 1))
	checkTokens(t, "=<", symbol("=", 0), symbol("<", 1))
	checkTokens(t, "< >", symbol("<", 0), symbol(">", 2))
	checkTokens(t, "||||", symbol("||", 0), symbol("||", 2))
	checkError(t, "|", 0, api.ErrSyntax)
	checkError(t, "|||", 2, api.ErrSyntax)
	checkError(t, "a | b", 2, api.ErrSyntax)
}

// TestSingleBytes lets Tokens begin a token with each byte.
func TestSingleBytes(t *testing.T) {
	for c := range 256 {
		s := string([]byte{byte(c)})
		switch {
		case s == " " || s == "\t" || s == "\n":
			checkTokens(t, s)
		case strings.Contains("(),.;*=<>+-/%", s):
			checkTokens(t, s, symbol(s, 0))
		case '0' <= c && c <= '9':
			checkTokens(t, s, number(c-'0', 0))
		case 'a' <= c && c <= 'z' || c == '_':
			checkTokens(t, s, name(s, 0))
		case c == '\'':
			checkError(t, s, 0, api.ErrTruncated)
		default:
			checkError(t, s, 0, api.ErrSyntax)
		}
	}
}

func TestTheFirstErrorCounts(t *testing.T) {
	checkError(t, "a 01 'b", 2, api.ErrSyntax)
	checkError(t, "'b 01", 0, api.ErrTruncated)
	checkError(t, "1125899906842625 01", 0, api.ErrRange)
	checkError(t, strings.Repeat("a", 25)+" #", 0, api.ErrTooLong)
	checkError(t, "a 'b' \r\n", 6, api.ErrSyntax)
}

func TestLongSources(t *testing.T) {
	checkTokens(t, strings.Repeat(" ", api.MaxSource))
	checkTokens(t, strings.Repeat("\n", api.MaxSource-1)+"a", name("a", api.MaxSource-1))
	checkError(t, strings.Repeat(" ", api.MaxSource+1), 0, api.ErrTooLong)
	checkError(t, "  #"+strings.Repeat("a", api.MaxSource-2), 0, api.ErrTooLong)
	checkError(t, "  #"+strings.Repeat("a", api.MaxSource-3), 2, api.ErrSyntax)
	if l, _, err := lexer.Tokens(strings.Repeat("(", api.MaxSource)); len(l) != api.MaxSource || err != api.OK {
		t.Error("many tokens:", len(l), err)
	}
}

func TestWord(t *testing.T) {
	for _, s := range []string{"SELECT", "select", "vAlIdFrOm", "Tx", "add", "WHERE", "if"} {
		if !lexer.Word(s) {
			t.Errorf("Word(%q) = false", s)
		}
	}
	for _, s := range []string{"", " ", "  ", "a", "selects", "elect", "SELEC", "valid_from", "ADD AFTER", " ADD", "ADD ", "\u017felect", "\u0131f", "\u212aEY", "ADD\x00", "relation", "group by"} {
		if lexer.Word(s) {
			t.Errorf("Word(%q) = true", s)
		}
	}
}

func TestWords(t *testing.T) {
	if l := lexer.Words(); strings.Join(l, ", ") != keywords {
		t.Error("Words:", l)
	}
}

func TestWordsReturnsNewMemory(t *testing.T) {
	clear(lexer.Words())
	if l := lexer.Words(); strings.Join(l, ", ") != keywords {
		t.Error("Words after a change:", l)
	}
}

func TestQuote(t *testing.T) {
	for s, want := range map[string]string{"": "''", "a": "'a'", "'": "''''", "it's": "'it''s'", "''": "''''''", "\x00\xff\n'": "'\x00\xff\n'''", "\u00e9": "'\u00e9'"} {
		if got := lexer.Quote(s); got != want {
			t.Errorf("Quote(%q) = %q, want %q", s, got, want)
		}
	}
}

func TestText(t *testing.T) {
	l := []api.Token{word("SELECT", 9), name("a", 0), symbol("<>", 0), text("it's", 3), number(0, 0), number(-42, 0), {Text: "of no kind", Int: 7}, {Kind: 99, Text: "?"}, text("", 0), {}}
	given := append([]api.Token(nil), l...)
	if got, want := lexer.Text(l), "SELECT a <> 'it''s' 0 -42 of no kind ? '' "; got != want {
		t.Errorf("Text = %q, want %q", got, want)
	}
	if !reflect.DeepEqual(l, given) {
		t.Error("Text changed its argument:", l)
	}
	if got := lexer.Text(nil); got != "" {
		t.Errorf("Text(nil) = %q", got)
	}
	if got := lexer.Text([]api.Token{{Kind: api.TokenNumber, Text: "x", Int: 5}}); got != "5" {
		t.Errorf("the text of a number = %q", got)
	}
}
