package printer_test

import (
	"reflect"
	"strings"
	"testing"

	"bitemporal/api"
	"bitemporal/printer"
	"bitemporal/syntax"
)

// TestStatement prints what texts yield: canonical ones, and others.
func TestStatement(t *testing.T) {
	for in, want := range map[string]string{
		"SELECT * FROM t":                         "",
		"SELECT DISTINCT a, t.b AS c FROM t AS t": "",
		"SELECT -5 AS a, -(5), -(-a) - -5 FROM t": "",
		"SELECT COUNT(*), COUNT(a) AS n, SUM(-a), MIN(a || b), MAX(a OR b) FROM t GROUP BY a, t.b":                                                                                                        "",
		"SELECT * FROM t AS x SYSTEM AS OF 0 UNDER 0 JOIN u SYSTEM FROM 3 TO FOREVER ON TRUE LEFT JOIN v SYSTEM BETWEEN 4 AND 4 ON x MEETS u JOIN w SYSTEM ALL UNDER 1099511627775 ON a = b WHERE a OR b": "",
		"SELECT * FROM t SYSTEM FROM 3 TO 1099511627775":                                                "",
		"SELECT * FROM t ORDER BY 1 DESC, 2 LIMIT 0":                                                    "",
		"SELECT * FROM t LIMIT 1125899906842624":                                                        "",
		"select a as b from t order by 3,1125899906842624":                                              "SELECT a AS b FROM t ORDER BY 3, 1125899906842624",
		"SELECT * FROM t UNION SELECT * FROM u EXCEPT ALL SELECT * FROM v INTERSECT SELECT * FROM w":    "",
		"SELECT * FROM t UNION (SELECT * FROM u UNION SELECT * FROM v)":                                 "",
		"((SELECT * FROM t) UNION SELECT * FROM u) UNION (SELECT * FROM v)":                             "SELECT * FROM t UNION SELECT * FROM u UNION SELECT * FROM v",
		"(SELECT * FROM t) EXCEPT (SELECT * FROM u INTERSECT (SELECT * FROM v EXCEPT SELECT * FROM w))": "SELECT * FROM t EXCEPT (SELECT * FROM u INTERSECT (SELECT * FROM v EXCEPT SELECT * FROM w))",
		"VALID AS OF 7 SELECT * FROM t":                                                                 "",
		"SEQUENCED SELECT * FROM t":                                                                     "",
		"sequenced from 0 to forever select * from t":                                                   "SEQUENCED SELECT * FROM t",
		"SEQUENCED FROM 0 TO 5 DELETE FROM t":                                                           "",
		"SEQUENCED FROM 1 TO FOREVER DELETE FROM t WHERE a IS NULL":                                     "",
		"NONSEQUENCED SELECT VALIDFROM(t), TX(t) FROM t":                                                "",
		"INSERT INTO t VALUES (1)":                                                                      "",
		"VALID AS OF 0 INSERT INTO t VALUES (1, -2, 'it''s'), (NULL)":                                   "",
		"UPDATE t SET a = 1":                                                                            "",
		"UPDATE t SET a = b = c, a = -1 WHERE (a = b) = c":                                              "",
		"DELETE FROM t": "",
		"CREATE TABLE t (a INT, PRIMARY KEY (a))": "",
		"CREATE TABLE t (a INT, b TEXT NULL, c BOOL, PRIMARY KEY (c, a), FOREIGN KEY (a, b) REFERENCES u, FOREIGN KEY (b) REFERENCES t, CHECK (a > 0), CHECK ((a OR b) AND c))": "",
		"create table t(a int null,a text,primary key(a,a),check((a)))": "CREATE TABLE t (a INT NULL, a TEXT, PRIMARY KEY (a, a), CHECK (a))",
		"ALTER TABLE t ADD c INT DEFAULT -7":                            "",
		"ALTER TABLE t ADD c TEXT NULL DEFAULT NULL":                    "",
		"ALTER TABLE t ADD c TEXT DEFAULT ''''":                         "",
		"ALTER TABLE t ADD c BOOL DEFAULT FALSE":                        "",
		"ALTER TABLE t DROP a":                                          "",
		"ALTER TABLE t RENAME a TO b":                                   "",
		"ALTER TABLE t TEXT a":                                          "",
		"BEGIN":                                                         "",
		"COMMIT":                                                        "",
		"ROLLBACK":                                                      "",
		"PRUNE":                                                         "",
		"SET NOW 0":                                                     "",
		"SET NOW 1099511627775":                                         "",
		"HOLD h ON t VALID FROM 0 TO FOREVER SYSTEM FROM 1 TO 2": "",
		"RELEASE h":              "",
		"RETAIN t 0":             "",
		"RETAIN t 1099511627776": "",
	} {
		if want == "" {
			want = in
		}
		s, at, err := syntax.Statement(in)
		if err != api.OK {
			t.Error(in, at, err)
		}
		if got, err := printer.Statement(s); got != want || err != api.OK {
			t.Errorf("%q is printed as %q, %d; want %q", in, got, err, want)
		}
		if s.Kind != api.StmtQuery {
			continue
		}
		got, err := printer.Query(s.Query)
		if s.Mode, s.Valid = api.ModeCurrent, (api.Period{}); err != api.OK {
			t.Error(in, err)
		}
		if want, err := printer.Statement(s); got != want || err != api.OK {
			t.Errorf("the query of %q is printed as %q", in, got)
		}
	}
}

func TestStatementsThatAreNotPrintable(t *testing.T) {
	valid := api.Period{From: 3, To: 5}
	del := api.Statement{Kind: api.StmtDelete, Name: "t"}
	update := api.Statement{Kind: api.StmtUpdate, Name: "t", Sets: []api.Set{{Name: "a", Expr: a}}}
	insert := api.Statement{Kind: api.StmtInsert, Name: "t", Rows: [][]api.Expr{{a}}}
	query := api.Statement{Kind: api.StmtQuery, Query: star("t")}
	create := api.Statement{Kind: api.StmtCreate, Table: small()}
	alter := api.Statement{Kind: api.StmtAlter, Name: "t", Change: api.Change{Kind: api.ChangeDrop, Name: "a"}}
	hold := api.Statement{Kind: api.StmtHold, Hold: api.Hold{Name: "h", Table: "t", Rect: api.Rect{Valid: valid, System: valid}}}
	release := api.Statement{Kind: api.StmtRelease, Name: "h"}
	retain := api.Statement{Kind: api.StmtRetain, Name: "t"}
	now := api.Statement{Kind: api.StmtNow}
	all := []api.Statement{del, update, insert, query, create, alter, hold, release, retain, now, {Kind: api.StmtBegin}, {Kind: api.StmtCommit}, {Kind: api.StmtRollback}, {Kind: api.StmtPrune}}
	for _, s := range all {
		if _, err := printer.Statement(s); err != api.OK {
			t.Error(s, err)
		}
	}
	for i, change := range []func(s *api.Statement){
		func(s *api.Statement) { s.Mode = api.ModeValidAt },
		func(s *api.Statement) { s.Mode = 4 },
		func(s *api.Statement) { s.Mode = -1 },
		func(s *api.Statement) { s.Valid = valid },
		func(s *api.Statement) { s.Mode, s.Valid = api.ModeNonsequenced, valid },
		func(s *api.Statement) { s.Mode, s.Valid = api.ModeValidAt, valid },
		func(s *api.Statement) {
			s.Mode, s.Valid = api.ModeValidAt, api.Period{From: api.Forever, To: api.Forever + 1}
		},
		func(s *api.Statement) {
			s.Mode, s.Valid = api.ModeSequenced, api.Period{From: 0, To: api.Forever + 1}
		},
		func(s *api.Statement) { s.Mode, s.Valid = api.ModeSequenced, api.Period{From: 5, To: 5} },
		func(s *api.Statement) { s.Query.Limit += 2; s.Query.Op = 7 },
		func(s *api.Statement) { s.Name += "." },
		func(s *api.Statement) { s.Rows = append(s.Rows, nil) },
		func(s *api.Statement) { s.Sets = append(s.Sets, api.Set{}) },
		func(s *api.Statement) { s.HasWhere = true },
		func(s *api.Statement) { s.Where = a },
		func(s *api.Statement) { s.Table.Checks = []api.Expr{truth(1)} },
		func(s *api.Statement) { s.Checks = []api.Expr{{}} },
		func(s *api.Statement) { s.Change.To = "b" },
		func(s *api.Statement) { s.Hold.Rect.System.To = -1 },
		func(s *api.Statement) { s.Number = -1 },
		func(s *api.Statement) { s.Kind = -s.Kind },
		func(s *api.Statement) { s.Kind += 14 },
	} {
		for _, s := range all {
			change(&s)
			if got, err := printer.Statement(s); got != "" || err != api.ErrInvalid {
				t.Errorf("change %d: %+v: %q, %d", i, s, got, err)
			}
		}
	}
	if got, err := printer.Statement(api.Statement{}); got != "" || err != api.ErrInvalid {
		t.Error(got, err)
	}
	for _, s := range []api.Statement{del, update, insert} {
		s.Mode = api.ModeNonsequenced
		if got, err := printer.Statement(s); got != "" || err != api.ErrInvalid {
			t.Errorf("%+v: %q, %d", s, got, err)
		}
	}
}

func TestQueriesThatAreNotPrintable(t *testing.T) {
	union := func() api.Query { return combination(api.QueryUnion, false, star("t"), star("u")) }
	for i, change := range []func(q *api.Query){
		func(q *api.Query) { q.All = true },
		func(q *api.Query) { q.Args = []api.Query{star("t")} },
		func(q *api.Query) { q.Op = -1 },
		func(q *api.Query) { *q = union(); q.Op = 4 },
		func(q *api.Query) { *q = union(); q.Args[0].Limit = 3 },
		func(q *api.Query) { *q = union(); q.Args[1].Limit = 0 },
		func(q *api.Query) { *q = union(); q.Args[1].Limit = -2 },
		func(q *api.Query) { *q = union(); q.Args[0].Order = []api.Order{{}} },
		func(q *api.Query) { *q = union(); q.Args = q.Args[:1] },
		func(q *api.Query) { *q = union(); q.Args = append(q.Args, star("v")) },
		func(q *api.Query) { *q = union(); q.Select = star("t").Select },
		func(q *api.Query) { *q = union(); q.Select.Distinct = true },
		func(q *api.Query) { *q = union(); q.Select.From.Under = -1 },
		func(q *api.Query) { q.Limit = -2 },
		func(q *api.Query) { q.Limit = api.MaxNumber + 1 },
		func(q *api.Query) { q.Order = []api.Order{{Column: -1}} },
		func(q *api.Query) { q.Order = []api.Order{{}, {Column: api.MaxNumber}} },
		func(q *api.Query) { q.Order = []api.Order{{Column: 1<<63 - 1}} },
		func(q *api.Query) { q.Select.Items = nil },
		func(q *api.Query) { q.Select.Items = []api.Item{{Star: true}, {Expr: a}} },
		func(q *api.Query) { q.Select.Items = []api.Item{{Expr: a}, {Star: true}} },
		func(q *api.Query) { q.Select.Items = []api.Item{{Star: true, Name: "a"}} },
		func(q *api.Query) { q.Select.Items = []api.Item{{Star: true, Expr: a}} },
		func(q *api.Query) { q.Select.Items = []api.Item{{Star: true, Agg: api.AggCount, Expr: a}} },
		func(q *api.Query) { q.Select.Items = []api.Item{{Star: true, Agg: api.AggSum}} },
		func(q *api.Query) { q.Select.Items = []api.Item{{Agg: api.AggCount}} },
		func(q *api.Query) { q.Select.Items = []api.Item{{Agg: 5, Expr: a}} },
		func(q *api.Query) { q.Select.Items = []api.Item{{Agg: -1, Expr: a}} },
		func(q *api.Query) { q.Select.Items = []api.Item{{Expr: a, Name: "a.b"}} },
		func(q *api.Query) { q.Select.From.Table = "" },
		func(q *api.Query) { q.Select.From.Alias = "X" },
		func(q *api.Query) { q.Select.From.Under = -2 },
		func(q *api.Query) { q.Select.From.Under = api.Forever },
		func(q *api.Query) { q.Select.From.Clause.Kind = 5 },
		func(q *api.Query) { q.Select.From.Clause.Kind = -1 },
		func(q *api.Query) { q.Select.From.Clause.From = 1 },
		func(q *api.Query) { q.Select.From.Clause.To = 1 },
		func(q *api.Query) { q.Select.From.Clause = api.Clause{Kind: api.ClauseAll, To: 1} },
		func(q *api.Query) { q.Select.From.Clause = api.Clause{Kind: api.ClauseAll, From: 1} },
		func(q *api.Query) { q.Select.From.Clause = api.Clause{Kind: api.ClauseAsOf, From: 1, To: 2} },
		func(q *api.Query) { q.Select.From.Clause = api.Clause{Kind: api.ClauseAsOf, From: api.Forever} },
		func(q *api.Query) { q.Select.From.Clause = api.Clause{Kind: api.ClauseAsOf, From: -1} },
		func(q *api.Query) { q.Select.From.Clause = api.Clause{Kind: api.ClauseFromTo, From: 1, To: 1} },
		func(q *api.Query) {
			q.Select.From.Clause = api.Clause{Kind: api.ClauseFromTo, From: 1, To: api.Forever + 1}
		},
		func(q *api.Query) { q.Select.From.Clause = api.Clause{Kind: api.ClauseFromTo, From: -1, To: 1} },
		func(q *api.Query) { q.Select.From.Clause = api.Clause{Kind: api.ClauseBetween, From: 2, To: 1} },
		func(q *api.Query) {
			q.Select.From.Clause = api.Clause{Kind: api.ClauseBetween, From: 2, To: api.Forever}
		},
		func(q *api.Query) { q.Select.From.Clause = api.Clause{Kind: api.ClauseBetween, From: -1, To: 1} },
		func(q *api.Query) { q.Select.Joins = []api.Join{{Source: q.Select.From}} },
		func(q *api.Query) { q.Select.Joins = []api.Join{{On: a}} },
		func(q *api.Query) { q.Select.HasWhere = true },
		func(q *api.Query) { q.Select.Where = a },
		func(q *api.Query) { q.Select.GroupBy = []api.Expr{truth(1)} },
		func(q *api.Query) { q.Select.GroupBy = []api.Expr{name("a.b.c")} },
		func(q *api.Query) { *q = api.Query{} },
		func(q *api.Query) { *q = api.Query{Limit: -1} },
	} {
		q := star("t")
		change(&q)
		if got, err := printer.Query(q); got != "" || err != api.ErrInvalid {
			t.Errorf("change %d: %+v: %q, %d", i, q, got, err)
		}
		if got, err := printer.Query(combination(api.QueryExcept, true, star("t"), q)); got != "" || err != api.ErrInvalid {
			t.Errorf("change %d, as an argument: %+v: %q, %d", i, q, got, err)
		}
	}
}

func TestDefinitionsThatAreNotPrintable(t *testing.T) {
	for i, change := range []func(t *api.Table){
		func(t *api.Table) { t.Name = "T" },
		func(t *api.Table) { t.Columns, t.Key = nil, nil },
		func(t *api.Table) { t.Columns[1].Name = "" },
		func(t *api.Table) { t.Columns[1].Kind = api.KindNull },
		func(t *api.Table) { t.Columns[1].Kind = api.KindBool + 1 },
		func(t *api.Table) { t.Columns[2].Name, t.Key = "a", []int{2} },
		func(t *api.Table) { t.Key = nil },
		func(t *api.Table) { t.Key = []int{3} },
		func(t *api.Table) { t.Key = []int{0, -1} },
		func(t *api.Table) { t.Foreigns = []api.Foreign{{Table: "u"}} },
		func(t *api.Table) { t.Foreigns = []api.Foreign{{Columns: []int{0}}} },
		func(t *api.Table) { t.Foreigns = []api.Foreign{{Columns: []int{0, 3}, Table: "u"}} },
		func(t *api.Table) { t.Checks = []api.Expr{truth(1)} },
	} {
		d := small()
		change(&d)
		if got, err := printer.Statement(api.Statement{Kind: api.StmtCreate, Table: d}); got != "" || err != api.ErrInvalid {
			t.Errorf("change %d: %q, %d", i, got, err)
		}
	}
	for _, c := range []api.Change{
		{}, {Kind: 5}, {Kind: -1}, {Kind: api.ChangeDrop}, {Kind: api.ChangeDrop, Name: "a", To: "b"}, {Kind: api.ChangeRename, Name: "a"}, {Kind: api.ChangeRename, To: "a"}, {Kind: api.ChangeText, Name: "a", Default: integer(1)},
		{Kind: api.ChangeAdd}, {Kind: api.ChangeAdd, Column: api.Column{Name: "a"}}, {Kind: api.ChangeAdd, Column: api.Column{Kind: api.KindInt}}, {Kind: api.ChangeAdd, Name: "a", Column: api.Column{Name: "a", Kind: api.KindInt}},
		{Kind: api.ChangeAdd, Column: api.Column{Name: "a", Kind: api.KindInt}, Default: integer(api.MaxNumber + 1)}, {Kind: api.ChangeDrop, Name: "a", Column: api.Column{Nullable: true}},
	} {
		if got, err := printer.Statement(api.Statement{Kind: api.StmtAlter, Name: "t", Change: c}); got != "" || err != api.ErrInvalid {
			t.Errorf("%+v: %q, %d", c, got, err)
		}
	}
}

// copied returns a copy of v in memory of its own, in which empty lists are not nil.
func copied(v reflect.Value) reflect.Value {
	result := reflect.New(v.Type()).Elem()
	switch v.Kind() {
	case reflect.Struct:
		for i := range v.NumField() {
			result.Field(i).Set(copied(v.Field(i)))
		}
	case reflect.Slice:
		result.Set(reflect.MakeSlice(v.Type(), v.Len(), v.Len()))
		for i := range v.Len() {
			result.Index(i).Set(copied(v.Index(i)))
		}
	default:
		result.Set(v)
	}
	return result
}

// change changes a number, string, flag or list.
func change(f reflect.Value) {
	switch f.Kind() {
	case reflect.Int:
		f.SetInt(f.Int() + 1)
	case reflect.String:
		f.SetString(f.String() + "x")
	case reflect.Bool:
		f.SetBool(!f.Bool())
	case reflect.Slice:
		f.Set(reflect.Append(f, reflect.Zero(f.Type().Elem())))
	}
}

// TestSame compares statements, which have elements in all lists, with copies in which one field is different.
func TestSame(t *testing.T) {
	m := newMaker(7)
	for range 100 {
		s := m.statement()
		m.left = 5
		s.Rows, s.Sets, s.Checks = [][]api.Expr{{m.expr()}, {a, b}}, []api.Set{{Expr: m.expr()}}, []api.Expr{m.expr(), c}
		s.Table, s.Query = m.table(), combination(1, true, m.query(), star("t"))
		s.Query.Order = []api.Order{{Column: 1}, {Desc: true}}
		s.Query.Select = m.query().Select
		s.Table.Checks, s.Table.Foreigns = []api.Expr{a}, []api.Foreign{{Columns: []int{1}, Table: "u"}}
		s.Query.Select.Joins, s.Query.Select.GroupBy = []api.Join{m.join()}, []api.Expr{a, b}
		other := copied(reflect.ValueOf(s))
		same := other.Interface().(api.Statement)
		if !printer.Same(s, same) || !printer.Same(same, s) || !printer.Same(s, plain(s)) {
			t.Fatalf("%+v is not the same as its copy", s)
		}
		fields(other, func(f reflect.Value) {
			old := copied(f)
			change(f)
			same = other.Interface().(api.Statement)
			if printer.Same(s, same) || printer.Same(same, s) {
				t.Fatalf("%+v is the same as %+v", s, same)
			}
			f.Set(old)
		})
	}
	first := api.Statement{Kind: api.StmtInsert, Name: "t", Rows: [][]api.Expr{{a}, {b}}}
	second := first
	second.Rows = [][]api.Expr{{b}, {a}}
	if printer.Same(first, second) {
		t.Error("the order of rows does not matter")
	}
}

// TestArgumentsAreNotModified prints statements, with their spare capacity.
func TestArgumentsAreNotModified(t *testing.T) {
	m := newMaker(8)
	for range 2000 {
		s := m.statement()
		before := copied(reflect.ValueOf(s)).Interface().(api.Statement)
		printer.Statement(s)
		printer.Query(s.Query)
		printer.Same(s, before)
		if !reflect.DeepEqual(plain(s), plain(before)) {
			t.Fatalf("%+v was changed", before)
		}
	}
	row := append(make([]api.Expr, 0, 4), a)
	if got, err := printer.Expression(api.Expr{Op: api.OpCoalesce, Args: row}); got != "COALESCE(a)" || err != api.OK || !reflect.DeepEqual(row[:4], []api.Expr{a, {}, {}, {}}) {
		t.Error(got, err, row[:4])
	}
}

// TestLongLists prints lists whose texts are too long by far.
func TestLongLists(t *testing.T) {
	s := api.Statement{Kind: api.StmtInsert, Name: "t"}
	for range 100000 {
		s.Rows = append(s.Rows, []api.Expr{str(strings.Repeat("x", 20))})
	}
	if got, err := printer.Statement(s); got != "" || err != api.ErrTooLong {
		t.Error(len(got), err)
	}
	q := star("t")
	for range 100000 {
		q.Select.Joins = append(q.Select.Joins, api.Join{Source: q.Select.From, On: a})
	}
	if got, err := printer.Query(q); got != "" || err != api.ErrTooLong {
		t.Error(len(got), err)
	}
	q.Select.Joins[99999].On = api.Expr{}
	if got, err := printer.Query(q); got != "" || err != api.ErrInvalid {
		t.Error(len(got), err)
	}
}
