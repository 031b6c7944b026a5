package lexer_test

import (
	"regexp"
	"slices"
	"strconv"
	"strings"
	"testing"

	"bitemporal/api"
	"bitemporal/lexer"
	"bitemporal/schema"
)

const keywords = "ADD, AFTER, ALL, ALTER, AND, AS, BEFORE, BEGIN, BETWEEN, BOOL, BY, CHECK, COALESCE, COMMIT, CONTAINS, COUNT, CREATE, DEFAULT, DELETE, DESC, DISTINCT, DROP, DURING, EQUALS, EXCEPT, FALSE, FINISHEDBY, FINISHES, FOREIGN, FOREVER, FROM, GROUP, HOLD, IF, INSERT, INT, INTERSECT, INTO, IS, JOIN, KEY, LEFT, LENGTH, LIMIT, MAX, MEETS, METBY, MIN, NONSEQUENCED, NOT, NOW, NULL, OF, ON, OR, ORDER, OVERLAPPEDBY, OVERLAPS, PRIMARY, PRUNE, REFERENCES, RELEASE, RENAME, RETAIN, ROLLBACK, SELECT, SEQUENCED, SET, STARTEDBY, STARTS, SUM, SYSTEM, SYSTEMFROM, SYSTEMTO, TABLE, TEXT, TO, TRUE, TX, UNDER, UNION, UPDATE, VALID, VALIDFROM, VALIDTO, VALUES, WHERE"

var (
	keywordList  = strings.Split(keywords, ", ")
	aBlank       = regexp.MustCompile(`^[ \t\n]+`)
	aWord        = regexp.MustCompile(`^[A-Za-z_][A-Za-z0-9_]*`)
	aName        = regexp.MustCompile(`^[a-z_][a-z0-9_]{0,23}$`)
	digits       = regexp.MustCompile(`^[0-9]+`)
	aNumber      = regexp.MustCompile(`^(0|[1-9][0-9]*)$`)
	aText        = regexp.MustCompile(`(?s)^'((?:[^']|'')*)`)
	aSymbol      = regexp.MustCompile(`^(<>|<=|>=|\|\||[(),.;*=<>+/%-])`)
	hasUpperCase = regexp.MustCompile(`[A-Z]`)
	badInText    = regexp.MustCompile(`[^ -~]`)
)

// read returns the token with which s begins, its length, and its error, as the chapter defines them.
func read(s string) (api.Token, int, api.Errno) {
	if w := aWord.FindString(s); w != "" {
		return readWord(w)
	}
	if d := digits.FindString(s); d != "" {
		if !aNumber.MatchString(d) || aWord.MatchString(s[len(d):]) {
			return api.Token{}, 0, api.ErrSyntax
		}
		n, _ := strconv.ParseUint(d, 10, 64) // the greatest number if it is too great for 64 bits
		if n > api.MaxNumber {
			return api.Token{}, 0, api.ErrRange
		}
		return number(int(n), 0), len(d), api.OK
	}
	if s[0] == '\'' {
		return readText(s)
	}
	if m := aSymbol.FindString(s); m != "" {
		return symbol(m, 0), len(m), api.OK
	}
	return api.Token{}, 0, api.ErrSyntax
}

func readWord(w string) (api.Token, int, api.Errno) {
	for _, k := range keywordList {
		if strings.EqualFold(k, w) {
			return word(k, 0), len(w), api.OK
		}
	}
	switch {
	case hasUpperCase.MatchString(w):
		return api.Token{}, 0, api.ErrSyntax
	case !aName.MatchString(w):
		return api.Token{}, 0, api.ErrTooLong
	}
	return name(w, 0), len(w), api.OK
}

// readText takes a quote for the end of the text only if no other one follows it.
func readText(s string) (api.Token, int, api.Errno) {
	m := aText.FindStringSubmatch(s)
	content := strings.ReplaceAll(m[1], "''", "'")
	switch {
	case badInText.MatchString(content):
		return api.Token{}, 0, api.ErrSyntax
	case len(m[0]) == len(s):
		return api.Token{}, 0, api.ErrTruncated
	case len(content) > api.MaxText:
		return api.Token{}, 0, api.ErrTooLong
	}
	return text(content, 0), len(m[0]) + 1, api.OK
}

// tokens is Tokens as the chapter defines it.
func tokens(s string) ([]api.Token, int, api.Errno) {
	if len(s) > api.MaxSource {
		return nil, 0, api.ErrTooLong
	}
	var l []api.Token
	for at := 0; at < len(s); {
		if b := aBlank.FindString(s[at:]); b != "" {
			at += len(b)
			continue
		}
		t, n, err := read(s[at:])
		if err != api.OK {
			return nil, at, err
		}
		t.At = at
		l = append(l, t)
		at += n
	}
	return l, 0, api.OK
}

// check compares Tokens(s) with the model, and reports what it should return.
func check(t *testing.T, s string) ([]api.Token, api.Errno) {
	t.Helper()
	l, at, err := lexer.Tokens(s)
	want, wantAt, wantErr := tokens(s)
	if !slices.Equal(l, want) || at != wantAt || err != wantErr {
		t.Fatalf("Tokens(%q) = %v, %d, %d; want %v, %d, %d", s, l, at, err, want, wantAt, wantErr)
	}
	return want, wantErr
}

// checkConsequences checks the positions of tokens of s, and that their text has the same tokens.
func checkConsequences(t *testing.T, s string, l []api.Token) {
	t.Helper()
	for i, x := range l {
		if i > 0 && x.At <= l[i-1].At || strings.Contains(" \t\n", s[x.At:x.At+1]) {
			t.Fatalf("positions of Tokens(%q): %v", s, l)
		}
	}
	again, at, err := lexer.Tokens(lexer.Text(l))
	if at != 0 || err != api.OK || !slices.EqualFunc(l, again, func(a, b api.Token) bool { return a.Kind == b.Kind && a.Text == b.Text && a.Int == b.Int }) {
		t.Fatalf("Tokens of Text(%v) = %v, %d, %d", l, again, at, err)
	}
}

// TestShortSources compares all texts of up to five bytes of a small alphabet with the model.
func TestShortSources(t *testing.T) {
	const alphabet = "aF0I1' <|>=\t\x80"
	level := []string{""}
	for range 5 {
		var next []string
		for _, s := range level {
			for i := range len(alphabet) {
				next = append(next, s+alphabet[i:i+1])
			}
		}
		for _, s := range next {
			if l, err := check(t, s); err == api.OK {
				checkConsequences(t, s, l)
			}
		}
		level = next
	}
}

// random returns numbers below n that depend only on the seed.
func random(seed uint64) func(n int) int {
	return func(n int) int {
		seed = seed*6364136223846793005 + 1442695040888963407
		return int(seed >> 33 % uint64(n))
	}
}

// someSource returns parts of tokens and blanks, some of which join.
func someSource(next func(n int) int) string {
	parts := []string{" ", " ", "\n", "\t", " ", "(", ")", "<", ">", "=", "||", "<>", "%", ".", "0", "7", "42", "1125899906842624", "99", "a", "b_1", "_", "x", "'a'", "''", "'it''s'", "' '", "'~'", strings.Repeat("n", 24), "'" + strings.Repeat("t", 200) + "'"}
	wrong := []string{"'", "|", "#", "\r", "\x7f", "\xc3\xa9", "Q", "00", "1125899906842625", "\x00", "'\x1f'", strings.Repeat("n", 25), "'" + strings.Repeat("t", 201) + "'", "99999999999999999999"}
	var b strings.Builder
	for range next(30) {
		switch next(40) {
		case 0:
			b.WriteString(wrong[next(len(wrong))])
		case 1, 2, 3, 4, 5, 6, 7:
			k := keywordList[next(len(keywordList))]
			if next(2) == 0 {
				k = strings.ToLower(k)
			}
			b.WriteString(k + " ")
		default:
			b.WriteString(parts[next(len(parts))])
			if next(2) == 0 {
				b.WriteByte(' ')
			}
		}
	}
	return b.String()
}

func TestRandomSources(t *testing.T) {
	next := random(17)
	seen := map[api.Errno]int{}
	for range 30000 {
		s := someSource(next)
		l, err := check(t, s)
		if err == api.OK {
			checkConsequences(t, s, l)
		}
		seen[err]++
	}
	for _, err := range []api.Errno{api.OK, api.ErrSyntax, api.ErrTruncated, api.ErrTooLong, api.ErrRange} {
		if seen[err] < 100 {
			t.Errorf("only %d sources with the error %d", seen[err], err)
		}
	}
}

// TestNames compares Name with the definition, and with the names of tables.
func TestNames(t *testing.T) {
	l := []string{"", "a", "abc", "select", "selects", "count", "tx", "txx", "a b", " a", "a ", "x_1", "1x", "_1", "a'", "a\n", "Select", "\u00e9", strings.Repeat("a", 24), strings.Repeat("a", 25), strings.Repeat("_", 25), strings.Repeat("a", 70000)}
	for c := range 256 {
		l = append(l, string([]byte{byte(c)}))
		for d := range 256 {
			l = append(l, string([]byte{byte(c), byte(d)}))
		}
	}
	for _, k := range keywordList {
		lower := strings.ToLower(k)
		l = append(l, k, lower, lower[1:], lower+"_", "x"+lower, lower[:len(lower)-1])
	}
	for _, s := range l {
		want := aName.MatchString(s) && !strings.HasSuffix(s, "\n") && !slices.Contains(keywordList, strings.ToUpper(s))
		if lexer.Name(s) != want || schema.Name(s) != want {
			t.Errorf("Name(%.40q) = %v, schema.Name %v; want %v", s, lexer.Name(s), schema.Name(s), want)
		}
		if isWord := slices.ContainsFunc(keywordList, func(k string) bool { return len(k) == len(s) && strings.EqualFold(k, s) }); lexer.Word(s) != isWord {
			t.Errorf("Word(%.40q) = %v", s, !isWord)
		}
	}
}
