package syntax_test

import (
	"reflect"
	"slices"
	"strings"
	"testing"

	"bitemporal/api"
	"bitemporal/syntax"
)

func number(n int) api.Expr {
	return api.Expr{Op: api.OpConst, Value: api.Value{Kind: api.KindInt, Int: n}}
}

func text(s string) api.Expr {
	return api.Expr{Op: api.OpConst, Value: api.Value{Kind: api.KindText, Text: s}}
}

func truth(n int) api.Expr {
	return api.Expr{Op: api.OpConst, Value: api.Value{Kind: api.KindBool, Int: n}}
}

func relate(a string, rel int, b string) api.Expr {
	return api.Expr{Op: api.OpRelate, Int: rel, Args: []api.Expr{named(a), named(b)}}
}

func TestExpression(t *testing.T) {
	a, b, c := named("a"), named("b"), named("c")
	null := api.Expr{Op: api.OpConst}
	for s, want := range map[string]api.Expr{
		"a":                   a,
		"t.a":                 named("t.a"),
		"t . a":               named("t.a"),
		"42":                  number(42),
		"'it''s'":             text("it's"),
		"NULL":                null,
		"TRUE":                truth(1),
		"false":               truth(0),
		"((a))":               a,
		"a AND b AND c":       made(api.OpAnd, a, b, c),
		"(a AND b) AND c":     made(api.OpAnd, made(api.OpAnd, a, b), c),
		"a AND (b AND c)":     made(api.OpAnd, a, made(api.OpAnd, b, c)),
		"a OR b AND c OR a":   made(api.OpOr, a, made(api.OpAnd, b, c), a),
		"(a OR b) OR c":       made(api.OpOr, made(api.OpOr, a, b), c),
		"NOT NOT a":           made(api.OpNot, made(api.OpNot, a)),
		"NOT a = b AND c":     made(api.OpAnd, made(api.OpNot, made(api.OpEq, a, b)), c),
		"NOT a IS NOT NULL":   made(api.OpNot, made(api.OpNot, made(api.OpIsNull, a))),
		"a + b IS NULL":       made(api.OpIsNull, made(api.OpAdd, a, b)),
		"-5":                  number(-5),
		"- 5":                 number(-5),
		"-0":                  number(0),
		"-(5)":                made(api.OpNeg, number(5)),
		"--5":                 made(api.OpNeg, number(-5)),
		"-a":                  made(api.OpNeg, a),
		"-'x'":                made(api.OpNeg, text("x")),
		"a - 5":               made(api.OpSub, a, number(5)),
		"a-5":                 made(api.OpSub, a, number(5)),
		"a - -5":              made(api.OpSub, a, number(-5)),
		"-5 * 3":              made(api.OpMul, number(-5), number(3)),
		"5 - 3 - 1":           made(api.OpSub, made(api.OpSub, number(5), number(3)), number(1)),
		"a - (b - c)":         made(api.OpSub, a, made(api.OpSub, b, c)),
		"a / b % c * a":       made(api.OpMul, made(api.OpMod, made(api.OpDiv, a, b), c), a),
		"a + b * c || a":      made(api.OpConcat, made(api.OpAdd, a, made(api.OpMul, b, c)), a),
		"a = b":               made(api.OpEq, a, b),
		"a <> b":              made(api.OpNe, a, b),
		"a < b":               made(api.OpLt, a, b),
		"a <= b":              made(api.OpLe, a, b),
		"a > b":               made(api.OpGt, a, b),
		"a >= b":              made(api.OpGe, a, b),
		"(a = b) = c":         made(api.OpEq, made(api.OpEq, a, b), c),
		"IF(a, b, c)":         made(api.OpIf, a, b, c),
		"COALESCE(a)":         made(api.OpCoalesce, a),
		"COALESCE(a, b, c)":   made(api.OpCoalesce, a, b, c),
		"LENGTH(a OR b)":      made(api.OpLength, made(api.OpOr, a, b)),
		"VALIDFROM(t)":        {Op: api.OpPeriod, Int: api.BoundValidFrom, Name: "t"},
		"VALIDTO(t)":          {Op: api.OpPeriod, Int: api.BoundValidTo, Name: "t"},
		"SYSTEMFROM(t)":       {Op: api.OpPeriod, Int: api.BoundSystemFrom, Name: "t"},
		"SYSTEMTO(t)":         {Op: api.OpPeriod, Int: api.BoundSystemTo, Name: "t"},
		"TX(t)":               {Op: api.OpPeriod, Int: api.BoundBy, Name: "t"},
		"a MEETS b AND c":     made(api.OpAnd, relate("a", api.Meets, "b"), c),
		"NOT a before b":      made(api.OpNot, relate("a", api.Before, "b")),
		"(a AFTER b) = (c)":   made(api.OpEq, relate("a", api.After, "b"), c),
		"1125899906842624":    number(api.MaxNumber),
		"-1125899906842624":   number(-api.MaxNumber),
		"a+b=c\nOR\ta.b<>'='": made(api.OpOr, made(api.OpEq, made(api.OpAdd, a, b), c), made(api.OpNe, named("a.b"), text("="))),
	} {
		e, at, err := syntax.Expression(s)
		if !reflect.DeepEqual(plain(e), want) || at != 0 || err != api.OK {
			t.Errorf("Expression(%q) = %v, %d, %d; want %v", s, e, at, err, want)
		}
	}
}

func TestRelationsHaveTheirNumbers(t *testing.T) {
	for rel, word := range relations {
		e, _, err := syntax.Expression("a " + word + " b")
		if !reflect.DeepEqual(plain(e), relate("a", rel, "b")) || err != api.OK {
			t.Errorf("a %s b: %v, %d", word, e, err)
		}
	}
}

// bad is a text with an error at a position.
type bad struct {
	s   string
	at  int
	err api.Errno
}

func checkBad(t *testing.T, l []bad, parse func(s string) (any, int, api.Errno)) {
	t.Helper()
	for _, x := range l {
		v, at, err := parse(x.s)
		if at != x.at || err != x.err || !reflect.ValueOf(v).IsZero() {
			t.Errorf("%.80q: %v, %d, %d; want %d, %d", x.s, v, at, err, x.at, x.err)
		}
	}
}

func expression(s string) (any, int, api.Errno) {
	e, at, err := syntax.Expression(s)
	return plain(e), at, err
}

func statement(s string) (any, int, api.Errno) {
	v, at, err := syntax.Statement(s)
	return plain(v), at, err
}

func script(s string) (any, int, api.Errno) {
	l, at, err := syntax.Script(s)
	if len(l) == 0 {
		l = nil
	}
	return l, at, err
}

func TestErrorsOfExpressions(t *testing.T) {
	checkBad(t, []bad{
		{"", 0, api.ErrTruncated},
		{" \n ", 3, api.ErrTruncated},
		{"a +", 3, api.ErrTruncated},
		{"a + ", 4, api.ErrTruncated},
		{"(a", 2, api.ErrTruncated},
		{"a.", 2, api.ErrTruncated},
		{"a MEETS", 7, api.ErrTruncated},
		{"NOT", 3, api.ErrTruncated},
		{"-", 1, api.ErrTruncated},
		{"a IS", 4, api.ErrTruncated},
		{"a IS NOT", 8, api.ErrTruncated},
		{"IF(a, b", 7, api.ErrTruncated},
		{"a b", 2, api.ErrSyntax},
		{"a)", 1, api.ErrSyntax},
		{"()", 1, api.ErrSyntax},
		{"a = b = c", 6, api.ErrSyntax},
		{"a IS NULL = b", 10, api.ErrSyntax},
		{"a IS NULL IS NULL", 10, api.ErrSyntax},
		{"a = b IS NULL", 6, api.ErrSyntax},
		{"a IS TRUE", 5, api.ErrSyntax},
		{"a MEETS b = c", 10, api.ErrSyntax},
		{"a MEETS b.c", 9, api.ErrSyntax},
		{"a MEETS b MEETS c", 10, api.ErrSyntax},
		{"t.a MEETS b", 4, api.ErrSyntax},
		{"1 + a MEETS b", 6, api.ErrSyntax},
		{"a = b MEETS c", 6, api.ErrSyntax},
		{"-a MEETS b", 3, api.ErrSyntax},
		{"(a) MEETS b", 4, api.ErrSyntax},
		{"5 MEETS b", 2, api.ErrSyntax},
		{"a MEETS 5", 8, api.ErrSyntax},
		{"a.b.c", 3, api.ErrSyntax},
		{"a.5", 2, api.ErrSyntax},
		{"a.select", 2, api.ErrSyntax},
		{"+a", 0, api.ErrSyntax},
		{"a * NOT b", 4, api.ErrSyntax},
		{"a AND OR b", 6, api.ErrSyntax},
		{"IF(a, b)", 7, api.ErrSyntax},
		{"IF(a, b, c, a)", 10, api.ErrSyntax},
		{"IF a", 3, api.ErrSyntax},
		{"COALESCE()", 9, api.ErrSyntax},
		{"LENGTH(a, b)", 8, api.ErrSyntax},
		{"TX(a.b)", 4, api.ErrSyntax},
		{"TX(5)", 3, api.ErrSyntax},
		{"COUNT(a)", 0, api.ErrSyntax},
		{"a + SUM(b)", 4, api.ErrSyntax},
		{"*", 0, api.ErrSyntax},
		{"a;", 1, api.ErrSyntax},
		{"'(' )", 4, api.ErrSyntax},
		{"a 'AND' b", 2, api.ErrSyntax},
		{"SELECT a FROM t", 0, api.ErrSyntax},
		// The errors of tokens come before the others.
		{") 01", 2, api.ErrSyntax},
		{") 'a", 2, api.ErrTruncated},
		{") 1125899906842625", 2, api.ErrRange},
		{") " + strings.Repeat("n", 25), 2, api.ErrTooLong},
		{")" + strings.Repeat(" ", api.MaxSource), 0, api.ErrTooLong},
	}, expression)
}

// star returns what SELECT * FROM and the table yield.
func star(table string) api.Query {
	return api.Query{Select: api.Select{Items: []api.Item{{Star: true}}, From: api.Source{Table: table, Under: -1}}, Limit: -1}
}

func combination(op int, all bool, a, b api.Query) api.Query {
	return api.Query{Op: op, All: all, Args: []api.Query{a, b}, Limit: -1}
}

func TestQueries(t *testing.T) {
	u, v, w := star("u"), star("v"), star("w")
	ordered, limited, grouped, joined := star("u"), star("u"), star("u"), star("u")
	ordered.Order = []api.Order{{Column: 1, Desc: true}, {Column: 0}, {Column: 1<<50 - 1}}
	limited.Limit = 0
	grouped.Select.Items = []api.Item{{Agg: api.AggCount, Star: true}, {Agg: api.AggCount, Expr: named("a")}, {Agg: api.AggSum, Expr: named("a"), Name: "s"}, {Agg: api.AggMin, Expr: named("a")}, {Agg: api.AggMax, Expr: named("u.a"), Name: "m"}, {Expr: named("b"), Name: "c"}}
	grouped.Select.GroupBy = []api.Expr{named("b"), named("u.a")}
	joined.Select.From = api.Source{Table: "u", Alias: "x", Clause: api.Clause{Kind: api.ClauseAsOf, From: 5}, Under: 7}
	joined.Select.Joins = []api.Join{
		{Source: api.Source{Table: "v", Clause: api.Clause{Kind: api.ClauseFromTo, From: 1, To: api.Forever}, Under: -1}, On: truth(1)},
		{Source: api.Source{Table: "w", Clause: api.Clause{Kind: api.ClauseBetween, From: 2, To: 2}, Under: 0}, Left: true, On: named("a")},
		{Source: api.Source{Table: "w", Alias: "y", Clause: api.Clause{Kind: api.ClauseAll}, Under: -1}, On: named("b")},
	}
	joined.Select.HasWhere, joined.Select.Where = true, named("c")
	for s, want := range map[string]api.Query{
		"SELECT * FROM u":     combination(0, false, u, u).Args[0],
		"((SELECT * FROM u))": u,
		"SELECT * FROM u UNION SELECT * FROM v EXCEPT SELECT * FROM w":                                 combination(api.QueryExcept, false, combination(api.QueryUnion, false, u, v), w),
		"SELECT * FROM u UNION (SELECT * FROM v EXCEPT ALL SELECT * FROM w)":                           combination(api.QueryUnion, false, u, combination(api.QueryExcept, true, v, w)),
		"(SELECT * FROM u) INTERSECT ALL (SELECT * FROM v)":                                            combination(api.QueryIntersect, true, u, v),
		"SELECT * FROM u ORDER BY 2 DESC, 1, 1125899906842624":                                         ordered,
		"SELECT * FROM u LIMIT 0":                                                                      limited,
		"SELECT COUNT(*), COUNT(a), SUM(a) AS s, MIN(a), MAX(u.a) AS m, b AS c FROM u GROUP BY b, u.a": grouped,
		"SELECT * FROM u AS x SYSTEM AS OF 5 UNDER 7 JOIN v SYSTEM FROM 1 TO FOREVER ON TRUE LEFT JOIN w SYSTEM BETWEEN 2 AND 2 UNDER 0 ON a JOIN w AS y SYSTEM ALL ON b WHERE c": joined,
	} {
		got, at, err := syntax.Statement(s)
		if !reflect.DeepEqual(plain(got), api.Statement{Kind: api.StmtQuery, Query: want}) || at != 0 || err != api.OK {
			t.Errorf("Statement(%q) = %+v, %d, %d; want %+v", s, got, at, err, want)
		}
	}
}

func TestPrefixes(t *testing.T) {
	for prefix, want := range map[string]api.Statement{
		"":                          {},
		"VALID AS OF 5":             {Mode: api.ModeValidAt, Valid: api.Period{From: 5, To: 6}},
		"VALID AS OF 1099511627775": {Mode: api.ModeValidAt, Valid: api.Period{From: api.Forever - 1, To: api.Forever}},
		"SEQUENCED":                 {Mode: api.ModeSequenced, Valid: api.Period{From: 0, To: api.Forever}},
		"SEQUENCED FROM 3 TO 4":     {Mode: api.ModeSequenced, Valid: api.Period{From: 3, To: 4}},
		"sequenced from 1099511627775 to forever": {Mode: api.ModeSequenced, Valid: api.Period{From: api.Forever - 1, To: api.Forever}},
		"NONSEQUENCED": {Mode: api.ModeNonsequenced},
	} {
		query := want
		query.Kind, query.Query = api.StmtQuery, star("t")
		deletion := want
		deletion.Kind, deletion.Name = api.StmtDelete, "t"
		checkYield(t, prefix+" SELECT * FROM t", query)
		checkYield(t, prefix+" (SELECT * FROM t)", query)
		if want.Mode != api.ModeNonsequenced {
			checkYield(t, prefix+" DELETE FROM t", deletion)
		}
	}
}

func checkYield(t *testing.T, s string, want api.Statement) {
	t.Helper()
	got, at, err := syntax.Statement(s)
	if !reflect.DeepEqual(plain(got), want) || at != 0 || err != api.OK {
		t.Errorf("Statement(%q) = %+v, %d, %d; want %+v", s, got, at, err, want)
	}
}

func TestStatements(t *testing.T) {
	change := func(c api.Change) api.Statement {
		return api.Statement{Kind: api.StmtAlter, Name: "t", Change: c}
	}
	for s, want := range map[string]api.Statement{
		"INSERT INTO t VALUES (1, -2), (a)":          {Kind: api.StmtInsert, Name: "t", Rows: [][]api.Expr{{number(1), number(-2)}, {named("a")}}},
		"UPDATE t SET a = 1, a = b WHERE c":          {Kind: api.StmtUpdate, Name: "t", Sets: []api.Set{{Name: "a", Expr: number(1)}, {Name: "a", Expr: named("b")}}, HasWhere: true, Where: named("c")},
		"UPDATE t SET a = b = c":                     {Kind: api.StmtUpdate, Name: "t", Sets: []api.Set{{Name: "a", Expr: made(api.OpEq, named("b"), named("c"))}}},
		"DELETE FROM t WHERE NULL":                   {Kind: api.StmtDelete, Name: "t", HasWhere: true, Where: api.Expr{Op: api.OpConst}},
		"BEGIN":                                      {Kind: api.StmtBegin},
		"commit":                                     {Kind: api.StmtCommit},
		"ROLLBACK":                                   {Kind: api.StmtRollback},
		"PRUNE":                                      {Kind: api.StmtPrune},
		"SET NOW 0":                                  {Kind: api.StmtNow},
		"SET NOW 1099511627775":                      {Kind: api.StmtNow, Number: api.Forever - 1},
		"RELEASE h":                                  {Kind: api.StmtRelease, Name: "h"},
		"RETAIN t 0":                                 {Kind: api.StmtRetain, Name: "t"},
		"RETAIN t 1099511627776":                     {Kind: api.StmtRetain, Name: "t", Number: api.Forever},
		"ALTER TABLE t DROP a":                       change(api.Change{Kind: api.ChangeDrop, Name: "a"}),
		"ALTER TABLE t RENAME a TO b":                change(api.Change{Kind: api.ChangeRename, Name: "a", To: "b"}),
		"ALTER TABLE t TEXT a":                       change(api.Change{Kind: api.ChangeText, Name: "a"}),
		"ALTER TABLE t ADD a INT DEFAULT 7":          change(api.Change{Kind: api.ChangeAdd, Column: api.Column{Name: "a", Kind: api.KindInt}, Default: number(7).Value}),
		"ALTER TABLE t ADD a INT DEFAULT -7":         change(api.Change{Kind: api.ChangeAdd, Column: api.Column{Name: "a", Kind: api.KindInt}, Default: number(-7).Value}),
		"ALTER TABLE t ADD a TEXT NULL DEFAULT NULL": {Kind: api.StmtAlter, Name: "t", Change: api.Change{Kind: api.ChangeAdd, Column: api.Column{Name: "a", Kind: api.KindText, Nullable: true}}},
		"ALTER TABLE t ADD a TEXT DEFAULT 'x'":       change(api.Change{Kind: api.ChangeAdd, Column: api.Column{Name: "a", Kind: api.KindText}, Default: text("x").Value}),
		"ALTER TABLE t ADD a BOOL DEFAULT TRUE":      change(api.Change{Kind: api.ChangeAdd, Column: api.Column{Name: "a", Kind: api.KindBool}, Default: truth(1).Value}),
		"ALTER TABLE t ADD a BOOL DEFAULT FALSE":     change(api.Change{Kind: api.ChangeAdd, Column: api.Column{Name: "a", Kind: api.KindBool}, Default: truth(0).Value}),
		"HOLD h ON t VALID FROM 0 TO 5 SYSTEM FROM 3 TO FOREVER":                                                                          {Kind: api.StmtHold, Hold: api.Hold{Name: "h", Table: "t", Rect: api.Rect{Valid: api.Period{From: 0, To: 5}, System: api.Period{From: 3, To: api.Forever}}}},
		"CREATE TABLE t (b INT, a TEXT NULL, b BOOL, PRIMARY KEY (a, b))":                                                                 {Kind: api.StmtCreate, Table: api.Table{Name: "t", Columns: []api.Column{{Name: "b", Kind: api.KindInt}, {Name: "a", Kind: api.KindText, Nullable: true}, {Name: "b", Kind: api.KindBool}}, Key: []int{1, 0}}},
		"CREATE TABLE t (a INT, PRIMARY KEY (a, a), FOREIGN KEY (a) REFERENCES u, FOREIGN KEY (a, a) REFERENCES t, CHECK (b), CHECK (1))": {Kind: api.StmtCreate, Table: api.Table{Name: "t", Columns: []api.Column{{Name: "a", Kind: api.KindInt}}, Key: []int{0, 0}, Foreigns: []api.Foreign{{Columns: []int{0}, Table: "u"}, {Columns: []int{0, 0}, Table: "t"}}}, Checks: []api.Expr{named("b"), number(1)}},
	} {
		checkYield(t, s, want)
	}
}

func TestErrorsOfQueries(t *testing.T) {
	checkBad(t, []bad{
		{"SELECT", 6, api.ErrTruncated},
		{"SELECT a FROM", 13, api.ErrTruncated},
		{"SELECT * FROM t LEFT", 20, api.ErrTruncated},
		{"(SELECT * FROM t", 16, api.ErrTruncated},
		{"SELECT * FROM t UNION ALL", 25, api.ErrTruncated},
		{"SELECT * FROM t SYSTEM BETWEEN 5 AND", 36, api.ErrTruncated},
		{"SELECT FROM t", 7, api.ErrSyntax},
		{"SELECT a", 8, api.ErrTruncated},
		{"SELECT a FROM t x", 16, api.ErrSyntax},
		{"SELECT DISTINCT DISTINCT a FROM t", 16, api.ErrSyntax},
		{"SELECT *, a FROM t", 8, api.ErrSyntax},
		{"SELECT a, * FROM t", 10, api.ErrSyntax},
		{"SELECT a AS select FROM t", 12, api.ErrSyntax},
		{"SELECT COUNT(*) + 1 FROM t", 16, api.ErrSyntax},
		{"SELECT 1 + COUNT(*) FROM t", 11, api.ErrSyntax},
		{"SELECT SUM(*) FROM t", 11, api.ErrSyntax},
		{"SELECT COUNT() FROM t", 13, api.ErrSyntax},
		{"SELECT COUNT(a, b) FROM t", 14, api.ErrSyntax},
		{"SELECT a FROM t, u", 15, api.ErrSyntax},
		{"SELECT a FROM (SELECT a FROM t)", 14, api.ErrSyntax},
		{"SELECT a FROM t JOIN u WHERE a", 23, api.ErrSyntax},
		{"SELECT a FROM t LEFT u ON a", 21, api.ErrSyntax},
		{"SELECT a FROM t SYSTEM 5", 23, api.ErrSyntax},
		{"SELECT a FROM t SYSTEM AS 5", 26, api.ErrSyntax},
		{"SELECT a FROM t SYSTEM BETWEEN 5 AND FOREVER", 37, api.ErrSyntax},
		{"SELECT a FROM t UNDER 5 SYSTEM ALL", 24, api.ErrSyntax},
		{"SELECT a FROM t UNDER -1", 22, api.ErrSyntax},
		{"SELECT a FROM t SYSTEM ALL AS x", 27, api.ErrSyntax},
		{"SELECT a FROM t WHERE a WHERE b", 24, api.ErrSyntax},
		{"SELECT a FROM t GROUP BY 1", 25, api.ErrSyntax},
		{"SELECT a FROM t GROUP BY a + b", 27, api.ErrSyntax},
		{"SELECT a FROM t GROUP BY a WHERE b", 27, api.ErrSyntax},
		{"SELECT a FROM t ORDER BY a", 25, api.ErrSyntax},
		{"SELECT a FROM t ORDER BY 1 LIMIT -1", 33, api.ErrSyntax},
		{"SELECT a FROM t LIMIT 3 ORDER BY 1", 24, api.ErrSyntax},
		{"SELECT a FROM t ORDER BY 1 UNION SELECT b FROM u", 27, api.ErrSyntax},
		{"(SELECT * FROM t LIMIT 3) UNION SELECT * FROM u", 17, api.ErrSyntax},
		{"(SELECT * FROM t ORDER BY 1)", 17, api.ErrSyntax},
		{"SELECT * FROM t UNION DELETE FROM t", 22, api.ErrSyntax},
		{"(DELETE FROM t)", 1, api.ErrSyntax},
		{"(SEQUENCED SELECT * FROM t)", 1, api.ErrSyntax},
		{"SELECT * FROM t)", 15, api.ErrSyntax},
		{"SELECT * FROM t ORDER BY 0", 25, api.ErrRange},
		{"SELECT * FROM t ORDER BY 1 DESC, 0 x", 33, api.ErrRange},
		{"SELECT * FROM t SYSTEM AS OF 1099511627776 x", 29, api.ErrRange},
		{"SELECT * FROM t UNDER 1099511627776", 22, api.ErrRange},
		{"SELECT * FROM t SYSTEM FROM 5 TO 5", 28, api.ErrRange},
		{"SELECT * FROM t SYSTEM FROM 5 TO 1099511627776", 28, api.ErrRange},
		{"SELECT * FROM t SYSTEM BETWEEN 5 AND 4", 31, api.ErrRange},
		{"SELECT * FROM t SYSTEM BETWEEN 5 AND 1099511627776", 31, api.ErrRange},
		{"SELECT * FROM t SYSTEM BETWEEN 1099511627776 AND 5 x", 31, api.ErrRange},
		{"SELECT * FROM t SYSTEM BETWEEN 1099511627776 5", 45, api.ErrSyntax},
	}, statement)
}

func TestErrorsOfStatements(t *testing.T) {
	checkBad(t, []bad{
		{"", 0, api.ErrTruncated},
		{"\n", 1, api.ErrTruncated},
		{";", 0, api.ErrSyntax},
		{"PRUNE;", 5, api.ErrSyntax},
		{"BEGIN COMMIT", 6, api.ErrSyntax},
		{"t", 0, api.ErrSyntax},
		{"'SELECT'", 0, api.ErrSyntax},
		{"SEQUENCED", 9, api.ErrTruncated},
		{"SEQUENCED BEGIN", 10, api.ErrSyntax},
		{"SEQUENCED CREATE TABLE t", 10, api.ErrSyntax},
		{"SEQUENCED SEQUENCED SELECT * FROM t", 10, api.ErrSyntax},
		{"SEQUENCED 3 TO 5 DELETE FROM t", 10, api.ErrSyntax},
		{"VALID 5 DELETE FROM t", 6, api.ErrSyntax},
		{"VALID AS OF FOREVER DELETE FROM t", 12, api.ErrSyntax},
		{"VALID AS OF -1 DELETE FROM t", 12, api.ErrSyntax},
		{"VALID AS OF 1099511627776 DELETE FROM t", 12, api.ErrRange},
		{"VALID AS OF 1099511627776 x", 12, api.ErrRange},
		{"SEQUENCED FROM 5 TO 3 DELETE FROM t", 15, api.ErrRange},
		{"SEQUENCED FROM 5 TO 5", 15, api.ErrRange},
		{"SEQUENCED FROM 5 TO 1099511627776", 15, api.ErrRange},
		{"SEQUENCED FROM 1099511627776 TO FOREVER", 15, api.ErrRange},
		{"SEQUENCED FROM 1099511627776 TO 1099511627777", 15, api.ErrRange},
		{"SEQUENCED FROM 1099511627776 DELETE FROM t", 29, api.ErrSyntax},
		{"SEQUENCED FROM 1099511627776 TO", 31, api.ErrTruncated},
		{"SEQUENCED FROM FOREVER TO FOREVER", 15, api.ErrSyntax},
		{"NONSEQUENCED DELETE FROM t", 13, api.ErrMode},
		{"NONSEQUENCED INSERT", 13, api.ErrMode},
		{"NONSEQUENCED UPDATE 5", 13, api.ErrMode},
		{"NONSEQUENCED FROM 3 TO 5 SELECT * FROM t", 13, api.ErrSyntax},
		{"NONSEQUENCED BEGIN", 13, api.ErrSyntax},
		{"NONSEQUENCED", 12, api.ErrTruncated},
		{"INSERT t VALUES (1)", 7, api.ErrSyntax},
		{"INSERT INTO t (1)", 14, api.ErrSyntax},
		{"INSERT INTO t VALUES ()", 22, api.ErrSyntax},
		{"INSERT INTO t VALUES (1),", 25, api.ErrTruncated},
		{"INSERT INTO t VALUES (1) WHERE a", 25, api.ErrSyntax},
		{"INSERT INTO select VALUES (1)", 12, api.ErrSyntax},
		{"UPDATE t WHERE a", 9, api.ErrSyntax},
		{"UPDATE t SET t.a = 1", 14, api.ErrSyntax},
		{"UPDATE t SET a = 1, WHERE a", 20, api.ErrSyntax},
		{"DELETE t", 7, api.ErrSyntax},
		{"DELETE FROM t AS x", 14, api.ErrSyntax},
		{"SET 5", 4, api.ErrSyntax},
		{"SET NOW", 7, api.ErrTruncated},
		{"SET NOW 1099511627776", 8, api.ErrRange},
		{"RETAIN t", 8, api.ErrTruncated},
		{"RETAIN t 1099511627777", 9, api.ErrRange},
		{"RETAIN t 1099511627777 x", 9, api.ErrRange},
		{"RETAIN t FOREVER", 9, api.ErrSyntax},
		{"RELEASE h ON t", 10, api.ErrSyntax},
		{"HOLD h ON t VALID FROM 0 TO 5", 29, api.ErrTruncated},
		{"HOLD h ON t VALID AS OF 5 SYSTEM FROM 3 TO 4", 18, api.ErrSyntax},
		{"HOLD h ON t SYSTEM FROM 0 TO 5 VALID FROM 3 TO 4", 12, api.ErrSyntax},
		{"HOLD h ON t VALID FROM 0 TO 0 x", 23, api.ErrRange},
		{"HOLD h ON t VALID FROM 0 TO 5 SYSTEM FROM 5 TO 3", 42, api.ErrRange},
		{"ALTER t", 6, api.ErrSyntax},
		{"ALTER TABLE t ADD a INT", 23, api.ErrTruncated},
		{"ALTER TABLE t ADD a INT DEFAULT", 31, api.ErrTruncated},
		{"ALTER TABLE t ADD a INT DEFAULT - 'x'", 34, api.ErrSyntax},
		{"ALTER TABLE t ADD a INT DEFAULT (1)", 32, api.ErrSyntax},
		{"ALTER TABLE t ADD a INT DEFAULT 1 + 1", 34, api.ErrSyntax},
		{"ALTER TABLE t ADD a INT DEFAULT b", 32, api.ErrSyntax},
		{"ALTER TABLE t DROP a, b", 20, api.ErrSyntax},
		{"ALTER TABLE t RENAME a b", 23, api.ErrSyntax},
		{"ALTER TABLE t a", 14, api.ErrSyntax},
		{"ALTER TABLE t", 13, api.ErrTruncated},
	}, statement)
}

func TestErrorsOfTables(t *testing.T) {
	checkBad(t, []bad{
		{"CREATE t", 7, api.ErrSyntax},
		{"CREATE TABLE t ()", 16, api.ErrSyntax},
		{"CREATE TABLE t (PRIMARY KEY (a))", 16, api.ErrSyntax},
		{"CREATE TABLE t (a INT)", 21, api.ErrSyntax},
		{"CREATE TABLE t (a INT,", 22, api.ErrTruncated},
		{"CREATE TABLE t (a INT, )", 23, api.ErrSyntax},
		{"CREATE TABLE t (a, PRIMARY KEY (a))", 17, api.ErrSyntax},
		{"CREATE TABLE t (a x, PRIMARY KEY (a))", 18, api.ErrSyntax},
		{"CREATE TABLE t (a NULL, PRIMARY KEY (a))", 18, api.ErrSyntax},
		{"CREATE TABLE t (a INT NOT NULL, PRIMARY KEY (a))", 22, api.ErrSyntax},
		{"CREATE TABLE t (a 'INT', PRIMARY KEY (a))", 18, api.ErrSyntax},
		{"CREATE TABLE t (a INT, CHECK (a), PRIMARY KEY (a))", 23, api.ErrSyntax},
		{"CREATE TABLE t (a INT, PRIMARY KEY ())", 36, api.ErrSyntax},
		{"CREATE TABLE t (a INT, PRIMARY KEY (a), PRIMARY KEY (a))", 40, api.ErrSyntax},
		{"CREATE TABLE t (a INT, PRIMARY KEY (a), b INT)", 40, api.ErrSyntax},
		{"CREATE TABLE t (a INT, PRIMARY KEY (a), CHECK (a), FOREIGN KEY (a) REFERENCES t)", 51, api.ErrSyntax},
		{"CREATE TABLE t (a INT, PRIMARY KEY (a), CHECK a)", 46, api.ErrSyntax},
		{"CREATE TABLE t (a INT, PRIMARY KEY (a), CHECK (a, b))", 48, api.ErrSyntax},
		{"CREATE TABLE t (a INT, PRIMARY KEY (a), FOREIGN KEY (a))", 55, api.ErrSyntax},
		{"CREATE TABLE t (a INT, PRIMARY KEY (a)", 38, api.ErrTruncated},
		{"CREATE TABLE t (a INT, PRIMARY KEY (a)) x", 40, api.ErrSyntax},
		{"CREATE TABLE t (a INT, PRIMARY KEY (b))", 36, api.ErrNotFound},
		{"CREATE TABLE t (a INT, PRIMARY KEY (a, c, b) x", 39, api.ErrNotFound},
		{"CREATE TABLE t (a INT, PRIMARY KEY (b", 37, api.ErrTruncated},
		{"CREATE TABLE t (a INT, PRIMARY KEY (b,)", 38, api.ErrSyntax},
		{"CREATE TABLE t (a INT, PRIMARY KEY (b 5", 38, api.ErrSyntax},
		{"CREATE TABLE t (a INT, PRIMARY KEY (a), FOREIGN KEY (t) REFERENCES", 53, api.ErrNotFound},
		{"CREATE TABLE t (a INT, PRIMARY KEY (b), FOREIGN KEY (c) x", 36, api.ErrNotFound},
		{"CREATE TABLE t (a INT, PRIMARY KEY (a), FOREIGN KEY (t", 54, api.ErrTruncated},
	}, statement)
}

// TestDepthOfExpressions has an expression of the depth 24, and one of the depth 25, at each place of a statement.
func TestDepthOfExpressions(t *testing.T) {
	deepest := strings.Repeat("NOT ", api.MaxDepth-1) + "a"
	if e, at, err := syntax.Expression(deepest); e.Op != api.OpNot || at != 0 || err != api.OK {
		t.Error("the depth 24:", e, at, err)
	}
	for _, s := range []string{"NOT " + deepest, "b OR " + deepest, deepest + " AND b", "(((" + deepest + "))) = b", "IF(a, a, " + deepest + ")", "COALESCE(" + deepest + ")", strings.Repeat("a + ", api.MaxDepth) + "a", strings.Repeat("-", 60000) + "a"} {
		checkBad(t, []bad{{s, 0, api.ErrDepth}}, expression)
	}
	if e, at, err := syntax.Expression(strings.Repeat("(", 30000) + deepest + strings.Repeat(")", 30000)); e.Op != api.OpNot || at != 0 || err != api.OK {
		t.Error("parentheses:", e, at, err)
	}
	for _, s := range []string{"DELETE FROM t WHERE @", "UPDATE t SET a = @", "UPDATE t SET a = 1 WHERE @", "INSERT INTO t VALUES (1), (2, @)", "SELECT @ FROM t", "SELECT a, SUM(@) FROM t", "SELECT * FROM t JOIN u ON @ LEFT JOIN v ON b", "SELECT * FROM t WHERE @", "SELECT * FROM t UNION (SELECT * FROM u WHERE @)", "CREATE TABLE t (a INT, PRIMARY KEY (a), CHECK (@), CHECK (a))"} {
		if _, at, err := syntax.Statement(strings.ReplaceAll(s, "@", deepest)); at != 0 || err != api.OK {
			t.Errorf("%q with the depth 24: %d, %d", s, at, err)
		}
		deeper := strings.ReplaceAll(s, "@", "NOT "+deepest)
		checkBad(t, []bad{{deeper, 0, api.ErrDepth}, {deeper + ")", len(deeper), api.ErrSyntax}}, statement)
		checkBad(t, []bad{{"BEGIN; " + deeper + "; COMMIT", 0, api.ErrDepth}, {"BEGIN; " + deeper + "; DELETE", len(deeper) + 15, api.ErrTruncated}}, script)
	}
}

func TestDepthOfQueries(t *testing.T) {
	left := strings.Repeat("SELECT * FROM t UNION ", api.MaxDepth-1) + "SELECT * FROM t"
	right := strings.Repeat("SELECT * FROM t EXCEPT (", api.MaxDepth-1) + "SELECT * FROM t" + strings.Repeat(")", api.MaxDepth-1)
	for _, s := range []string{left, right, left + " ORDER BY 1 LIMIT 5", "((" + right + "))", "(" + left[len("SELECT * FROM t UNION "):] + ") UNION (" + right[len("SELECT * FROM t EXCEPT ("):len(right)-1] + ")"} {
		if v, at, err := syntax.Statement(s); v.Kind != api.StmtQuery || at != 0 || err != api.OK {
			t.Errorf("%q: %d, %d", s, at, err)
		}
		checkBad(t, []bad{{"SELECT * FROM u INTERSECT (" + strings.TrimSuffix(s, " ORDER BY 1 LIMIT 5") + ")", 0, api.ErrDepth}}, statement)
	}
	checkBad(t, []bad{{left + " UNION SELECT * FROM t", 0, api.ErrDepth}, {left + " UNION SELECT * FROM t LIMIT", len(left) + 28, api.ErrTruncated}, {strings.Repeat("SELECT*FROM t UNION ", 3000) + "SELECT*FROM t", 0, api.ErrDepth}}, statement)
}

func TestScript(t *testing.T) {
	begin, commit := api.Statement{Kind: api.StmtBegin}, api.Statement{Kind: api.StmtCommit}
	for s, want := range map[string][]api.Statement{
		"":                   nil,
		" \n\t":              nil,
		"BEGIN":              {begin},
		"BEGIN;":             {begin},
		" BEGIN ; COMMIT ":   {begin, commit},
		"BEGIN;COMMIT;\n":    {begin, commit},
		"BEGIN;BEGIN;COMMIT": {begin, begin, commit},
	} {
		l, at, err := syntax.Script(s)
		if !reflect.DeepEqual(plain(l), want) || at != 0 || err != api.OK {
			t.Errorf("Script(%q) = %v, %d, %d; want %v", s, l, at, err, want)
		}
	}
	checkBad(t, []bad{
		{";", 0, api.ErrSyntax},
		{"BEGIN;;", 6, api.ErrSyntax},
		{"; BEGIN", 0, api.ErrSyntax},
		{"BEGIN COMMIT", 6, api.ErrSyntax},
		{"BEGIN; DELETE", 13, api.ErrTruncated},
		{"BEGIN; DELETE ;", 14, api.ErrSyntax},
		{"BEGIN; SET NOW 1099511627776; x", 15, api.ErrRange},
		{"BEGIN; NONSEQUENCED DELETE FROM t;", 20, api.ErrMode},
		{"x; 01", 3, api.ErrSyntax},
		{"BEGIN; 'a", 7, api.ErrTruncated},
		{"x" + strings.Repeat(" ", api.MaxSource), 0, api.ErrTooLong},
	}, script)
}

func TestCut(t *testing.T) {
	for s, want := range map[string][]string{
		"":               nil,
		" \t\n":          nil,
		"a":              {"a"},
		"a;":             {"a"},
		"a; \n":          {"a"},
		" a b ;\n\tc\t":  {"a b", "c"},
		"a;b;c;":         {"a", "b", "c"},
		"a';'';';b":      {"a';'';'", "b"},
		"1 SELECT ( ; )": {"1 SELECT (", ")"},
		"BEGIN;\n DELETE FROM t WHERE a = ';' ; COMMIT": {"BEGIN", "DELETE FROM t WHERE a = ';'", "COMMIT"},
	} {
		if l, err := syntax.Cut(s); !slices.Equal(l, want) || err != api.OK {
			t.Errorf("Cut(%q) = %q, %d; want %q", s, l, err, want)
		}
	}
	for s, want := range map[string]api.Errno{
		";": api.ErrSyntax, " ; ": api.ErrSyntax, "a;;": api.ErrSyntax, "a; ;b": api.ErrSyntax, ";a": api.ErrSyntax, "BEGIN; ;": api.ErrSyntax,
		";; 'a": api.ErrTruncated, "a; 01": api.ErrSyntax, "a;\r": api.ErrSyntax, ";1125899906842625": api.ErrRange, ";" + strings.Repeat("a", 25): api.ErrTooLong, strings.Repeat(" ", api.MaxSource+1): api.ErrTooLong,
	} {
		if l, err := syntax.Cut(s); len(l) > 0 || err != want {
			t.Errorf("Cut(%.60q) = %q, %d; want %d", s, l, err, want)
		}
	}
}

// TestNesting has as much nesting as the longest text permits.
func TestNesting(t *testing.T) {
	open := strings.Repeat("(", api.MaxSource)
	checkBad(t, []bad{{open, api.MaxSource, api.ErrTruncated}, {open[1:] + ")", api.MaxSource - 1, api.ErrSyntax}}, expression)
	checkBad(t, []bad{{open, api.MaxSource, api.ErrTruncated}}, statement)
	checkBad(t, []bad{{strings.Repeat("NOT ", api.MaxSource/4), api.MaxSource, api.ErrTruncated}, {strings.Repeat("-", api.MaxSource), api.MaxSource, api.ErrTruncated}}, expression)
}

// TestNoDifferenceBetweenSpacesAndLineFeeds compares texts with other blanks.
func TestNoDifferenceBetweenSpacesAndLineFeeds(t *testing.T) {
	s := "SELECT a AS b , - 5 FROM t WHERE a <> 'x y' AND t . a >= 1"
	want, _, err := syntax.Statement(s)
	if err != api.OK {
		t.Fatal(err)
	}
	for _, blank := range []string{"  ", "\n", " \n ", "\t"} {
		got, at, err := syntax.Statement(strings.ReplaceAll(strings.ReplaceAll(s, " ", blank), "x"+blank+"y", "x y"))
		if !reflect.DeepEqual(got, want) || at != 0 || err != api.OK {
			t.Errorf("with %q: %+v, %d, %d", blank, got, at, err)
		}
	}
	got, _, err := syntax.Statement("SELECT a AS b,-5FROM t WHERE a<>'x y'AND t.a>=1")
	if err != api.ErrSyntax {
		t.Error("a number that a word follows:", got, err)
	}
	got, _, err = syntax.Statement("SELECT a AS b,-5 FROM t WHERE a<>'x y'AND t.a>=1")
	if !reflect.DeepEqual(got, want) || err != api.OK {
		t.Errorf("without blanks: %+v, %d", got, err)
	}
}
