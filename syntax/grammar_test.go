package syntax_test

import (
	"slices"
	"strings"
	"testing"

	"bitemporal/api"
	"bitemporal/lexer"
)

// grammar is the grammar of the chapter: a rule on each line, alternatives after "|", "[x]" for x or nothing, "{x}" for
// any number of x. The relations are listed, and unsigned is the chapter's literal without "-".
const grammar = `
script = [statement {";" statement} [";"]]
statement = query | [prefix] INSERT INTO name VALUES row {"," row} | [prefix] UPDATE name SET name "=" expr {"," name "=" expr} [WHERE expr] | [prefix] DELETE FROM name [WHERE expr] | CREATE TABLE name "(" column {"," column} "," PRIMARY KEY names {"," FOREIGN KEY names REFERENCES name} {"," CHECK "(" expr ")"} ")" | ALTER TABLE name (ADD column DEFAULT literal | DROP name | RENAME name TO name | TEXT name) | BEGIN | COMMIT | ROLLBACK | SET NOW number | HOLD name ON name VALID period SYSTEM period | RELEASE name | RETAIN name number | PRUNE
prefix = VALID AS OF number | SEQUENCED [period] | NONSEQUENCED
period = FROM number TO (number | FOREVER)
row = "(" expr {"," expr} ")"
names = "(" name {"," name} ")"
column = name (INT | TEXT | BOOL) [NULL]
literal = NULL | TRUE | FALSE | ["-"] number | text
query = [prefix] combined [ORDER BY number [DESC] {"," number [DESC]}] [LIMIT number]
combined = term {(UNION | EXCEPT | INTERSECT) [ALL] term}
term = select | "(" combined ")"
select = SELECT [DISTINCT] ("*" | item {"," item}) FROM source {[LEFT] JOIN source ON expr} [WHERE expr] [GROUP BY ref {"," ref}]
item = (COUNT "(" "*" ")" | (COUNT | SUM | MIN | MAX) "(" expr ")" | expr) [AS name]
source = name [AS name] [SYSTEM (AS OF number | period | BETWEEN number AND number | ALL)] [UNDER number]
ref = name ["." name]
expr = and {OR and}
and = not {AND not}
not = NOT not | compare
compare = name relation name | sum [("=" | "<>" | "<" | "<=" | ">" | ">=") sum | IS [NOT] NULL]
sum = product {("+" | "-" | "||") product}
product = unary {("*" | "/" | "%") unary}
unary = "-" number | "-" unary | primary
primary = unsigned | ref | "(" expr ")" | IF "(" expr "," expr "," expr ")" | COALESCE "(" expr {"," expr} ")" | LENGTH "(" expr ")" | (VALIDFROM | VALIDTO | SYSTEMFROM | SYSTEMTO | TX) "(" name ")"
unsigned = NULL | TRUE | FALSE | number | text
relation = BEFORE | MEETS | OVERLAPS | STARTS | DURING | FINISHES | EQUALS | FINISHEDBY | CONTAINS | STARTEDBY | OVERLAPPEDBY | METBY | AFTER
`

// rules are the rules of a grammar without brackets: for each left side, right sides. A part that is no left side is a
// terminal: name, number, text, a keyword or a symbol.
type rules struct {
	sides map[string][][]string
	count int
}

// newRules reads the grammar.
func newRules() *rules {
	r := &rules{sides: map[string][][]string{}}
	for _, line := range strings.Split(strings.TrimSpace(grammar), "\n") {
		left, right, _ := strings.Cut(line, " = ")
		for _, b := range []string{`[`, `]`, `{`, `}`, `(`, `)`, `|`} {
			right = strings.ReplaceAll(right, b, " "+b+" ")
			right = strings.ReplaceAll(right, `" `+b+` "`, `"`+b+`"`)
		}
		right = strings.ReplaceAll(right, `" |  | "`, `"||"`)
		parts := strings.Fields(right)
		r.sides[left] = r.alternatives(&parts)
	}
	return r
}

// alternatives reads the parts up to a closing bracket.
func (r *rules) alternatives(parts *[]string) [][]string {
	l := [][]string{nil}
	for len(*parts) > 0 {
		p := (*parts)[0]
		*parts = (*parts)[1:]
		switch p {
		case "]", "}", ")":
			return l
		case "|":
			l = append(l, nil)
			continue
		case "[", "{", "(":
			p = r.bracket(p, parts)
		default:
			p = strings.Trim(p, `"`)
		}
		l[len(l)-1] = append(l[len(l)-1], p)
	}
	return l
}

// bracket adds a rule for what is in brackets, and returns its left side.
func (r *rules) bracket(open string, parts *[]string) string {
	r.count++
	left := "#" + strings.Repeat("i", r.count)
	l := r.alternatives(parts)
	if open == "{" {
		for i := range l {
			l[i] = append(l[i], left)
		}
	}
	if open != "(" {
		l = append(l, nil)
	}
	r.sides[left] = l
	return left
}

// entry is a right side of which a beginning has been found, from the token from on.
type entry struct {
	left       string
	side, done int
	from       int
}

// accepted reports how many of the terminals can begin a text of the grammar, and whether all of them are one. This is
// Earley's method: set i contains the entries that are possible after i terminals.
func (r *rules) accepted(start string, terminals []string) (int, bool) {
	sets := make([][]entry, len(terminals)+1)
	for i := range r.sides[start] {
		sets[0] = append(sets[0], entry{start, i, 0, 0})
	}
	for at := range sets {
		r.complete(sets, at)
		if at == len(terminals) {
			break
		}
		for _, e := range sets[at] {
			if side := r.sides[e.left][e.side]; e.done < len(side) && side[e.done] == terminals[at] {
				e.done++
				sets[at+1] = append(sets[at+1], e)
			}
		}
		if len(sets[at+1]) == 0 {
			return at, false
		}
	}
	return len(terminals), slices.ContainsFunc(sets[len(terminals)], func(e entry) bool {
		return e.left == start && e.from == 0 && e.done == len(r.sides[start][e.side])
	})
}

// complete adds to a set what its entries predict and complete.
func (r *rules) complete(sets [][]entry, at int) {
	seen := map[entry]bool{}
	empty := map[string]bool{}
	add := func(e entry) {
		if !seen[e] {
			seen[e] = true
			sets[at] = append(sets[at], e)
		}
	}
	given := sets[at]
	sets[at] = nil
	for _, e := range given {
		add(e)
	}
	for i := 0; i < len(sets[at]); i++ {
		e := sets[at][i]
		side := r.sides[e.left][e.side]
		if e.done < len(side) {
			for j := range r.sides[side[e.done]] {
				add(entry{side[e.done], j, 0, at})
			}
			if empty[side[e.done]] {
				e.done++
				add(e)
			}
			continue
		}
		if e.from == at {
			empty[e.left] = true
		}
		for _, f := range sets[e.from] {
			if s := r.sides[f.left][f.side]; f.done < len(s) && s[f.done] == e.left {
				f.done++
				add(f)
			}
		}
	}
}

// terminal returns the terminal of the grammar that a token is.
func terminal(t api.Token) string {
	switch t.Kind {
	case api.TokenName:
		return "name"
	case api.TokenNumber:
		return "number"
	case api.TokenText:
		return "text"
	}
	return t.Text
}

// judged returns the error of a text and its position, except for the depth, as the chapter defines them.
func (r *rules) judged(start, s string) (int, api.Errno) {
	l, at, err := lexer.Tokens(s)
	if err != api.OK {
		return at, err
	}
	var terminals []string
	for _, t := range l {
		terminals = append(terminals, terminal(t))
	}
	n, whole := r.accepted(start, terminals)
	if at, err := refused(l[:n]); err != api.OK {
		return at, err
	}
	switch {
	case n < len(l):
		return l[n].At, api.ErrSyntax
	case !whole:
		return len(s), api.ErrTruncated
	}
	return 0, api.OK
}

// refused returns the first error that tokens have which the grammar permits, and its position.
func refused(l []api.Token) (int, api.Errno) {
	for i := range l {
		if at, err := refusedAt(l[:i+1]); err != api.OK {
			return at, err
		}
	}
	return 0, api.OK
}

// refusedAt returns the error that the last token completes, and its position.
func refusedAt(l []api.Token) (int, api.Errno) {
	last := l[len(l)-1]
	ends := func(pattern string) bool {
		p := strings.Fields(pattern)
		return len(l) >= len(p) && slices.EqualFunc(p, l[len(l)-len(p):], func(p string, t api.Token) bool { return p == terminal(t) })
	}
	before := func(n int) api.Token { return l[len(l)-1-n] }
	switch {
	case ends("OF number"), ends("UNDER number"), ends("NOW number"):
		return refusedIf(last.Int >= api.Forever, last.At, api.ErrRange)
	case ends("FROM number TO number"):
		return refusedIf(before(2).Int >= last.Int || last.Int >= api.Forever, before(2).At, api.ErrRange)
	case ends("FROM number TO FOREVER"):
		return refusedIf(before(2).Int >= api.Forever, before(2).At, api.ErrRange)
	case ends("BETWEEN number AND number"):
		return refusedIf(before(2).Int > last.Int || last.Int >= api.Forever, before(2).At, api.ErrRange)
	case ends("RETAIN name number"):
		return refusedIf(last.Int > api.Forever, last.At, api.ErrRange)
	case ends("NONSEQUENCED INSERT"), ends("NONSEQUENCED UPDATE"), ends("NONSEQUENCED DELETE"):
		return last.At, api.ErrMode
	case last.Kind == api.TokenNumber && inOrder(l):
		return refusedIf(last.Int == 0, last.At, api.ErrRange)
	case ends(")"):
		return unknownColumn(l)
	}
	return 0, api.OK
}

func refusedIf(is bool, at int, err api.Errno) (int, api.Errno) {
	if is {
		return at, err
	}
	return 0, api.OK
}

// inOrder reports whether only numbers, commas and DESC are between the last token and an ORDER BY.
func inOrder(l []api.Token) bool {
	i := len(l) - 1
	for i >= 0 && (l[i].Kind == api.TokenNumber || l[i].Text == "," || l[i].Text == "DESC") {
		i--
	}
	return i >= 1 && terminal(l[i-1]) == "ORDER" && terminal(l[i]) == "BY"
}

// unknownColumn returns the position of the first name in parentheses after KEY that is no column before PRIMARY.
func unknownColumn(l []api.Token) (int, api.Errno) {
	open := len(l) - 2
	for open > 0 && (l[open].Kind == api.TokenName || l[open].Text == ",") {
		open--
	}
	if open < 1 || terminal(l[open-1]) != "KEY" {
		return 0, api.OK
	}
	columns := map[string]bool{}
	for i := len(l) - 2; terminal(l[i]) != "CREATE"; i-- {
		if k := terminal(l[i+1]); l[i].Kind == api.TokenName && (k == "INT" || k == "TEXT" || k == "BOOL") {
			columns[l[i].Text] = true
		}
	}
	for _, t := range l[open : len(l)-1] {
		if t.Kind == api.TokenName && !columns[t.Text] {
			return t.At, api.ErrNotFound
		}
	}
	return 0, api.OK
}

// TestModel checks the model with the chapter's examples.
func TestModel(t *testing.T) {
	r := newRules()
	for _, x := range []struct {
		start, s string
		at       int
		err      api.Errno
	}{
		{"statement", "SELECT a FROM", 13, api.ErrTruncated},
		{"statement", "SELECT FROM t", 7, api.ErrSyntax},
		{"expr", "a AND b AND c", 0, api.OK},
		{"expr", "a || b || 'c' = -(5)", 0, api.OK},
		{"expr", "a | b", 2, api.ErrSyntax},
		{"expr", "", 0, api.ErrTruncated},
		{"script", "", 0, api.OK},
		{"script", "BEGIN;;", 6, api.ErrSyntax},
		{"statement", "SELECT * FROM t UNION SELECT a FROM u EXCEPT SELECT b FROM v", 0, api.OK},
	} {
		if at, err := r.judged(x.start, x.s); at != x.at || err != x.err {
			t.Errorf("%q: %d %d, want %d %d", x.s, at, err, x.at, x.err)
		}
	}
}
