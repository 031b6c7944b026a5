package schema_test

import (
	"slices"
	"strings"

	"bitemporal/api"
	"bitemporal/expr"
)

// random returns a function that continues a fixed sequence of numbers from 0 to n - 1.
func random(seed uint64) func(n int) int {
	return func(n int) int {
		seed = seed*6364136223846793005 + 1442695040888963407
		return int(seed >> 33 % uint64(n))
	}
}

func number(n int) api.Value  { return api.Value{Kind: api.KindInt, Int: n} }
func word(s string) api.Value { return api.Value{Kind: api.KindText, Text: s} }
func truth(n int) api.Value   { return api.Value{Kind: api.KindBool, Int: n} }

func con(v api.Value) api.Expr         { return api.Expr{Op: api.OpConst, Value: v} }
func col(i int) api.Expr               { return api.Expr{Op: api.OpColumn, Int: i} }
func op(o int, l ...api.Expr) api.Expr { return api.Expr{Op: o, Args: l} }

// nested returns an expression of a depth.
func nested(depth int) api.Expr {
	e := con(truth(1))
	for range depth - 1 {
		e = op(api.OpNot, e)
	}
	return e
}

// sample returns a valid table with four columns, two foreign keys and two checks.
func sample() api.Table {
	return api.Table{
		Name: "t",
		Columns: []api.Column{
			{Name: "a", Kind: api.KindInt},
			{Name: "b", Kind: api.KindText, Nullable: true},
			{Name: "c", Kind: api.KindBool},
			{Name: "d", Kind: api.KindInt, Nullable: true},
		},
		Key:      []int{0, 2},
		Foreigns: []api.Foreign{{Table: "u", Columns: []int{3, 0}}, {Table: "t", Columns: []int{1}}},
		Checks:   []api.Expr{op(api.OpLt, col(0), con(number(5))), op(api.OpIsNull, col(1))},
	}
}

// words are the keywords as layer 17 lists them.
const words = "ADD, AFTER, ALL, ALTER, AND, AS, BEFORE, BEGIN, BETWEEN, BOOL, BY, CHECK, COALESCE, COMMIT, CONTAINS, COUNT, CREATE, DEFAULT, DELETE, DESC, DISTINCT, DROP, DURING, EQUALS, EXCEPT, FALSE, FINISHEDBY, FINISHES, FOREIGN, FOREVER, FROM, GROUP, HOLD, IF, INSERT, INT, INTERSECT, INTO, IS, JOIN, KEY, LEFT, LENGTH, LIMIT, MAX, MEETS, METBY, MIN, NONSEQUENCED, NOT, NOW, NULL, OF, ON, OR, ORDER, OVERLAPPEDBY, OVERLAPS, PRIMARY, PRUNE, REFERENCES, RELEASE, RENAME, RETAIN, ROLLBACK, SELECT, SEQUENCED, SET, STARTEDBY, STARTS, SUM, SYSTEM, SYSTEMFROM, SYSTEMTO, TABLE, TEXT, TO, TRUE, TX, UNDER, UNION, UPDATE, VALID, VALIDFROM, VALIDTO, VALUES, WHERE"

// keywords returns the keywords in lower case.
func keywords() []string { return strings.Split(strings.ToLower(words), ", ") }

// isName is the definition of a name.
func isName(s string, words []string) bool {
	for i := range len(s) {
		if !strings.Contains("abcdefghijklmnopqrstuvwxyz0123456789_", s[i:i+1]) {
			return false
		}
	}
	return len(s) >= 1 && len(s) <= 24 && !strings.Contains("0123456789", s[:1]) && !slices.Contains(words, s)
}

// check is the definition of Check: the first of its errors.
func check(t api.Table, words []string) api.Errno {
	first := api.OK
	demand := func(holds bool, err api.Errno) {
		if first == api.OK && !holds {
			first = err
		}
	}
	demand(isName(t.Name, words), api.ErrSyntax)
	demand(len(t.Columns) >= 1 && len(t.Columns) <= 12, api.ErrColumns)
	var kinds []int
	for i, c := range t.Columns {
		demand(isName(c.Name, words), api.ErrSyntax)
		demand(c.Kind == api.KindInt || c.Kind == api.KindText || c.Kind == api.KindBool, api.ErrKind)
		for _, before := range t.Columns[:i] {
			demand(before.Name != c.Name, api.ErrExists)
		}
		kinds = append(kinds, c.Kind)
	}
	demand(len(t.Key) > 0, api.ErrSchema)
	for k, i := range t.Key {
		demand(i >= 0 && i < len(t.Columns), api.ErrSchema)
		demand(k == 0 || i > t.Key[k-1], api.ErrSchema)
		demand(i < 0 || i >= len(t.Columns) || !t.Columns[i].Nullable, api.ErrNull)
	}
	demand(len(t.Foreigns) <= 4, api.ErrTooLong)
	for _, f := range t.Foreigns {
		demand(isName(f.Table, words), api.ErrSyntax)
		demand(len(f.Columns) > 0, api.ErrSchema)
		for k, i := range f.Columns {
			demand(i >= 0 && i < len(t.Columns) && !slices.Contains(f.Columns[:k], i), api.ErrSchema)
		}
	}
	demand(len(t.Checks) <= 4, api.ErrTooLong)
	for _, e := range t.Checks {
		kind, err := expr.Check(e, kinds)
		demand(err == api.OK, err)
		demand(kind == api.KindNull || kind == api.KindBool, api.ErrKind)
	}
	return first
}

// accepts is the definition of Accepts.
func accepts(t api.Table, row []api.Value) api.Errno {
	if len(row) != len(t.Columns) {
		return api.ErrColumns
	}
	for i, v := range row {
		isNull := v == api.Value{}
		isOther := v.Kind == api.KindInt && v.Text == "" && v.Int >= -api.MaxNumber && v.Int <= api.MaxNumber ||
			v.Kind == api.KindText && v.Int == 0 && len(v.Text) <= api.MaxText && !strings.ContainsAny(v.Text, "\n\x7f") ||
			v.Kind == api.KindBool && v.Text == "" && (v.Int == 0 || v.Int == 1)
		if !isNull && !isOther {
			return api.ErrInvalid
		}
		if isNull && !t.Columns[i].Nullable {
			return api.ErrNull
		}
		if isOther && v.Kind != t.Columns[i].Kind {
			return api.ErrKind
		}
	}
	return api.OK
}
