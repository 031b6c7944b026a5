package binder_test

import (
	"reflect"
	"slices"
	"strings"
	"testing"

	"bitemporal/api"
	"bitemporal/binder"
	"bitemporal/syntax"
)

// parsed returns the query of a text.
func parsed(t *testing.T, text string) api.Query {
	t.Helper()
	s, at, err := syntax.Statement(text)
	if err != api.OK || s.Kind != api.StmtQuery {
		t.Fatalf("%q: %d, %d", text, at, err)
	}
	return s.Query
}

func scan(i int) api.Plan { return api.Plan{Op: api.PlanScan, Int: i} }

func over(op int, inputs ...api.Plan) api.Plan { return api.Plan{Op: op, Inputs: inputs} }

func filter(pred api.Expr, p api.Plan) api.Plan {
	return api.Plan{Op: api.PlanFilter, Pred: pred, Inputs: []api.Plan{p}}
}

func join(op int, pred api.Expr, a, b api.Plan) api.Plan {
	return api.Plan{Op: op, Pred: pred, Inputs: []api.Plan{a, b}}
}

func project(p api.Plan, exprs ...api.Expr) api.Plan {
	return api.Plan{Op: api.PlanProject, Exprs: exprs, Inputs: []api.Plan{p}}
}

func group(p api.Plan, keys []int, aggs ...api.Agg) api.Plan {
	return api.Plan{Op: api.PlanGroup, Keys: keys, Aggs: aggs, Inputs: []api.Plan{p}}
}

func num(n int) api.Expr { return constant(integer(n)) }

func truth(n int) api.Expr { return constant(api.Value{Kind: api.KindBool, Int: n}) }

func null() api.Expr { return constant(api.Value{}) }

// columns reads the names of columns and their kinds: i, t or b.
func columns(s string) []api.Column {
	var l []api.Column
	for _, c := range strings.Fields(s) {
		name, kind, _ := strings.Cut(c, ":")
		l = append(l, api.Column{Name: name, Kind: map[string]int{"i": api.KindInt, "t": api.KindText, "b": api.KindBool}[kind]})
	}
	return l
}

// At 30 t has the columns a, e, c and d.
func TestPlans(t *testing.T) {
	c0, c1, c2, c3 := column(0), column(1), column(2), column(3)
	allen := func(rel, a, b, c, d int) api.Expr {
		return api.Expr{Op: api.OpAllen, Int: rel, Args: []api.Expr{column(a), column(b), column(c), column(d)}}
	}
	for _, x := range []struct {
		text    string
		mode    int
		plan    api.Plan
		columns string
	}{
		{"SELECT e FROM t WHERE a = 1", 0, project(filter(operation(api.OpEq, c0, num(1)), scan(0)), c1), "e:t"},
		{"SELECT * FROM t", 0, project(scan(0), c0, c1, c2, c3), "a:i e:t c:b d:i"},
		{"SELECT * FROM t", 3, project(scan(0), c0, c1, c2, c3), "a:i e:t c:b d:i"},
		{"SELECT * FROM u JOIN u AS v ON TRUE", 3, project(join(api.PlanJoin, truth(1), scan(0), scan(1)), c0, c1, column(7), column(8)), "a:i c:i a:i c:i"},
		{"SELECT DISTINCT * FROM u LEFT JOIN one ON u.a = x", 2, over(api.PlanDistinct, project(join(api.PlanLeft, operation(api.OpEq, c0, c2), scan(0), scan(1)), c0, c1, c2)), "a:i c:i x:i"},
		{"SELECT one.x FROM one JOIN u ON x = a JOIN t ON u.a = t.a AND t.c WHERE u.c IS NULL", 1,
			project(filter(operation(api.OpIsNull, c2), join(api.PlanJoin, operation(api.OpAnd, operation(api.OpEq, c1, c3), column(5)), join(api.PlanJoin, operation(api.OpEq, c0, c1), scan(0), scan(1)), scan(2))), c0), "x:i"},
		{"SELECT a + 1, a AS n, t.e, -5, c OR NULL AS x, IF(c, NULL, e) FROM t", 0, project(scan(0), operation(api.OpAdd, c0, num(1)), c0, c1, num(-5), operation(api.OpOr, c2, null()), operation(api.OpIf, c2, null(), c1)), "column1:i n:i e:t column4:i x:b column6:t"},
		{"SELECT a FROM t WHERE NULL", 0, project(filter(null(), scan(0)), c0), "a:i"},
		{"SELECT a FROM u JOIN one ON NULL", 0, project(join(api.PlanJoin, null(), scan(0), scan(1)), c0), "a:i"},
		{"SELECT COUNT(*) FROM t", 0, project(group(project(scan(0), truth(1)), nil, api.Agg{Op: api.AggCount, Arg: -1}), c0), "count:i"},
		{"SELECT COUNT(*), COUNT(*) AS n FROM t WHERE c", 0, project(group(project(filter(c2, scan(0)), truth(1)), nil, api.Agg{Op: api.AggCount, Arg: -1}, api.Agg{Op: api.AggCount, Arg: -1}), c0, c1), "count:i n:i"},
		{"SELECT COUNT(e), SUM(a + d), MIN(c), MAX(e), MIN(t.a) AS least FROM t", 2,
			project(group(project(scan(0), c1, operation(api.OpAdd, c0, c3), c2, c1, c0), nil, api.Agg{Op: api.AggCount}, api.Agg{Op: api.AggSum, Arg: 1}, api.Agg{Op: api.AggMin, Arg: 2}, api.Agg{Op: api.AggMax, Arg: 3}, api.Agg{Op: api.AggMin, Arg: 4}), c0, c1, c2, c3, column(4)), "count:i sum:i min:b max:t least:i"},
		{"SELECT MAX(d), e, COUNT(*), t.a, MIN(a) FROM t GROUP BY a, t.e, c", 0,
			project(group(project(scan(0), c0, c1, c2, c3, c0), []int{0, 1, 2}, api.Agg{Op: api.AggMax, Arg: 3}, api.Agg{Op: api.AggCount, Arg: -1}, api.Agg{Op: api.AggMin, Arg: 4}), c3, c1, column(4), c0, column(5)), "max:i e:t count:i a:i min:i"},
		{"SELECT a AS x, t.a FROM t GROUP BY e, t.a, a", 0, project(group(project(scan(0), c1, c0, c0), []int{0, 1, 2}), c1, c1), "x:i a:i"},
		{"SELECT DISTINCT c FROM t GROUP BY c", 0, over(api.PlanDistinct, project(group(project(scan(0), c2), []int{0}), c0)), "c:b"},
		{"SELECT COUNT(*) FROM t GROUP BY c", 0, project(group(project(scan(0), c2), []int{0}, api.Agg{Op: api.AggCount, Arg: -1}), c1), "count:i"},
		{"SELECT VALIDFROM(t), VALIDTO(x), SYSTEMFROM(x), SYSTEMTO(t), TX(x), x.a FROM t JOIN u AS x ON t MEETS x", 3,
			project(join(api.PlanJoin, allen(api.Meets, 4, 5, 11, 12), scan(0), scan(1)), column(4), column(12), column(13), column(7), column(15), column(9)), "column1:i column2:i column3:i column4:i column5:i a:i"},
		{"SELECT MAX(VALIDTO(u)) FROM u WHERE u AFTER u", 3, project(group(project(filter(allen(api.After, 2, 3, 2, 3), scan(0)), c3), nil, api.Agg{Op: api.AggMax}), c0), "max:i"},
		{"SELECT a FROM u UNION SELECT c FROM u", 0, over(api.PlanDistinct, over(api.PlanUnion, project(scan(0), c0), project(scan(1), c1))), "a:i"},
		{"SELECT a FROM u UNION ALL SELECT c FROM u", 2, over(api.PlanUnion, project(scan(0), c0), project(scan(1), c1)), "a:i"},
		{"SELECT a AS x FROM u EXCEPT SELECT c FROM u", 0, over(api.PlanExcept, over(api.PlanDistinct, project(scan(0), c0)), over(api.PlanDistinct, project(scan(1), c1))), "x:i"},
		{"SELECT a FROM u EXCEPT ALL SELECT c FROM u", 0, over(api.PlanExcept, project(scan(0), c0), project(scan(1), c1)), "a:i"},
		{"SELECT a FROM u INTERSECT SELECT c FROM u", 0, over(api.PlanIntersect, over(api.PlanDistinct, project(scan(0), c0)), over(api.PlanDistinct, project(scan(1), c1))), "a:i"},
		{"SELECT a FROM u INTERSECT ALL SELECT c FROM u", 0, over(api.PlanIntersect, project(scan(0), c0), project(scan(1), c1)), "a:i"},
		{"SELECT a FROM u UNION ALL (SELECT x.a FROM t AS x JOIN u AS y ON x.c UNION ALL SELECT x FROM one)", 0,
			over(api.PlanUnion, project(scan(0), c0), over(api.PlanUnion, project(join(api.PlanJoin, c2, scan(1), scan(2)), c0), project(scan(3), c0))), "a:i"},
	} {
		q := parsed(t, x.text)
		got, err := binder.Query(sample(), 30, x.mode, q)
		if err != api.OK || !reflect.DeepEqual(plain(got.Plan), plain(x.plan)) {
			t.Errorf("%s: %+v, %d", x.text, got.Plan, err)
		}
		if !slices.Equal(got.Columns, columns(x.columns)) {
			t.Errorf("%s: %+v", x.text, got.Columns)
		}
		if len(got.Order) > 0 || got.Limit != -1 {
			t.Error(x.text, got.Order, got.Limit)
		}
	}
}

func TestSourcesOrderAndLimit(t *testing.T) {
	q := parsed(t, "SELECT x.a FROM t AS x SYSTEM AS OF 12 JOIN u SYSTEM BETWEEN 1 AND 2 UNDER 20 ON TRUE EXCEPT (SELECT x FROM one SYSTEM ALL UNION SELECT x.a FROM u AS x) ORDER BY 1 DESC, 1 LIMIT 7")
	want := []api.Source{{Table: "t", Alias: "x", Clause: api.Clause{Kind: api.ClauseAsOf, From: 12}, Under: -1}, {Table: "u", Clause: api.Clause{Kind: api.ClauseBetween, From: 1, To: 2}, Under: 20}, {Table: "one", Clause: api.Clause{Kind: api.ClauseAll}, Under: -1}, {Table: "u", Alias: "x", Under: -1}}
	for mode := range 4 {
		got, err := binder.Query(sample(), 30, mode, q)
		if mode == api.ModeSequenced {
			if err != api.ErrMode || !reflect.DeepEqual(got, api.Bound{}) {
				t.Error(got, err)
			}
			continue
		}
		if err != api.OK || !slices.Equal(got.Sources, want) || !slices.Equal(got.Order, []api.Order{{Desc: true}, {}}) || got.Limit != 7 {
			t.Error(got, err)
		}
	}
}

// TestTimes has sources at different system times: t has the columns a, b, c from 5 on, also d from 15 on, and e instead
// of b from 25 on.
func TestTimes(t *testing.T) {
	for _, x := range []struct {
		source string
		at     int
		want   string
		err    api.Errno
	}{
		{"t", 30, "a:i e:t c:b d:i", api.OK},
		{"t", 24, "a:i b:t c:b d:i", api.OK},
		{"t", 14, "a:i b:t c:b", api.OK},
		{"t", 5, "a:i b:t c:b", api.OK},
		{"t", 4, "", api.ErrNotFound},
		{"t SYSTEM AS OF 14", 30, "a:i b:t c:b", api.OK},
		{"t SYSTEM AS OF 30", 14, "a:i e:t c:b d:i", api.OK},
		{"t SYSTEM AS OF 4", 30, "", api.ErrNotFound},
		{"t SYSTEM AS OF 4 UNDER 15", 30, "a:i b:t c:b d:i", api.OK},
		{"t SYSTEM AS OF 15 UNDER 4", 30, "", api.ErrNotFound},
		{"t UNDER 14", 30, "a:i b:t c:b", api.OK},
		{"t UNDER 30", 14, "a:i e:t c:b d:i", api.OK},
		{"t UNDER 0", 30, "", api.ErrNotFound},
		{"t SYSTEM ALL", 14, "a:i b:t c:b", api.OK},
		{"t SYSTEM FROM 2 TO 8", 14, "a:i b:t c:b", api.OK},
		{"t SYSTEM FROM 2 TO 8", 30, "a:i e:t c:b d:i", api.OK},
		{"t SYSTEM BETWEEN 2 AND 8", 30, "a:i e:t c:b d:i", api.OK},
		{"t SYSTEM FROM 14 TO 15 UNDER 14", 30, "a:i b:t c:b", api.OK},
	} {
		got, err := binder.Query(sample(), x.at, api.ModeCurrent, parsed(t, "SELECT * FROM "+x.source))
		if err != x.err || !slices.Equal(got.Columns, columns(x.want)) {
			t.Errorf("%s at %d: %+v, %d", x.source, x.at, got.Columns, err)
		}
	}
}

// bad is the text of a query with an error in a mode.
type bad struct {
	text string
	mode int
	err  api.Errno
}

func checkBad(t *testing.T, l []bad) {
	t.Helper()
	for _, x := range l {
		got, err := binder.Query(sample(), 30, x.mode, parsed(t, x.text))
		if err != x.err || !reflect.DeepEqual(got, api.Bound{}) {
			t.Errorf("%s: %+v, %d; want %d", x.text, got, err, x.err)
		}
	}
}

func TestErrorsOfNames(t *testing.T) {
	checkBad(t, []bad{
		{"SELECT z FROM u", 0, api.ErrNotFound},
		{"SELECT b FROM t", 0, api.ErrNotFound},
		{"SELECT x.a FROM u", 0, api.ErrNotFound},
		{"SELECT u.z FROM u", 0, api.ErrNotFound},
		{"SELECT u.x FROM u JOIN one ON TRUE", 0, api.ErrNotFound},
		{"SELECT u.a FROM u AS x", 0, api.ErrNotFound},
		{"SELECT u FROM u", 0, api.ErrNotFound},
		{"SELECT a FROM u JOIN t ON TRUE", 0, api.ErrAmbiguous},
		{"SELECT a FROM u AS x JOIN u AS y ON x.a = y.a", 0, api.ErrAmbiguous},
		{"SELECT a + z FROM u JOIN t ON TRUE", 0, api.ErrAmbiguous},
		{"SELECT z + a FROM u JOIN t ON TRUE", 0, api.ErrNotFound},
		{"SELECT VALIDFROM(u) FROM u", 0, api.ErrMode},
		{"SELECT VALIDFROM(zz) FROM u", 1, api.ErrMode},
		{"SELECT VALIDFROM(u) FROM u", 2, api.ErrMode},
		{"SELECT a FROM u WHERE u MEETS u", 2, api.ErrMode},
		{"SELECT a FROM u WHERE zz MEETS u", 0, api.ErrMode},
		{"SELECT a FROM u WHERE z = 1 OR u MEETS u", 0, api.ErrNotFound},
		{"SELECT a FROM u WHERE u MEETS u OR z", 0, api.ErrMode},
		{"SELECT VALIDFROM(x) FROM u", 3, api.ErrNotFound},
		{"SELECT VALIDFROM(u) FROM u AS x", 3, api.ErrNotFound},
		{"SELECT VALIDFROM(a) FROM u", 3, api.ErrNotFound},
		{"SELECT a FROM u WHERE u MEETS x", 3, api.ErrNotFound},
		{"SELECT a FROM u WHERE x MEETS u", 3, api.ErrNotFound},
		// The names come before what expr.Check says.
		{"SELECT 1 + 'x' + z FROM u", 0, api.ErrNotFound},
		{"SELECT 1 + 'x' + VALIDFROM(u) FROM u", 0, api.ErrMode},
		{"SELECT 1 + 'x' FROM u", 0, api.ErrKind},
		{"SELECT VALIDFROM(u) || 'x' FROM u", 3, api.ErrKind},
		{"SELECT a = e FROM t", 0, api.ErrKind},
	})
}

// TestErrorsOfSelects has errors, and pairs of errors of which the first one counts.
func TestErrorsOfSelects(t *testing.T) {
	checkBad(t, []bad{
		{"SELECT a FROM zz", 0, api.ErrNotFound},
		{"SELECT a FROM u JOIN zz ON TRUE", 0, api.ErrNotFound},
		{"SELECT a FROM u JOIN u ON TRUE", 0, api.ErrExists},
		{"SELECT a FROM u JOIN t AS u ON TRUE", 0, api.ErrExists},
		{"SELECT a FROM u AS t JOIN t ON TRUE", 0, api.ErrExists},
		{"SELECT x FROM t AS x JOIN one ON TRUE JOIN u AS x ON TRUE", 0, api.ErrExists},
		{"SELECT a FROM u JOIN zz AS u ON TRUE", 0, api.ErrNotFound},
		{"SELECT w0 FROM wide JOIN wide AS x ON TRUE JOIN wide AS y ON TRUE JOIN wide AS z ON TRUE JOIN wide AS y ON TRUE", 0, api.ErrExists},
		{"SELECT w0 FROM wide JOIN wide AS x ON TRUE JOIN wide AS y ON TRUE JOIN wide AS z ON TRUE JOIN one ON z", 0, api.ErrColumns},
		{"SELECT w0 FROM wide JOIN wide AS x ON TRUE JOIN wide AS y ON TRUE JOIN wide AS z ON q", 0, api.ErrNotFound},
		{"SELECT a FROM u JOIN t ON a = 1", 0, api.ErrAmbiguous},
		{"SELECT a FROM u JOIN one ON t.a = 1 JOIN t ON TRUE", 0, api.ErrNotFound},
		{"SELECT a FROM u JOIN one ON x = 'x'", 0, api.ErrKind},
		{"SELECT a FROM u JOIN one ON x", 0, api.ErrKind},
		{"SELECT a FROM u LEFT JOIN one ON 'x'", 0, api.ErrKind},
		{"SELECT a FROM u JOIN one ON x JOIN zz ON TRUE", 0, api.ErrKind},
		{"SELECT a FROM u JOIN one ON TRUE JOIN zz ON x", 0, api.ErrNotFound},
		{"SELECT a FROM u JOIN one ON VALIDFROM(u) = 1", 0, api.ErrMode},
		{"SELECT a FROM u JOIN one ON x WHERE z", 0, api.ErrKind},
		{"SELECT a FROM u WHERE a", 0, api.ErrKind},
		{"SELECT e FROM t WHERE e", 0, api.ErrKind},
		{"SELECT z FROM u WHERE a", 0, api.ErrKind},
		{"SELECT a FROM u WHERE a GROUP BY z", 0, api.ErrKind},
		{"SELECT a FROM u GROUP BY z", 0, api.ErrNotFound},
		{"SELECT t.a FROM u JOIN t ON TRUE GROUP BY t.a, a", 0, api.ErrAmbiguous},
		{"SELECT * FROM u GROUP BY z", 0, api.ErrNotFound},
		{"SELECT * FROM u GROUP BY a, c", 0, api.ErrInvalid},
		{"SELECT a, COUNT(*) FROM u", 0, api.ErrInvalid},
		{"SELECT COUNT(*), a FROM u", 0, api.ErrInvalid},
		{"SELECT COUNT(*), z FROM u", 0, api.ErrNotFound},
		{"SELECT a, z FROM u GROUP BY c", 0, api.ErrInvalid},
		{"SELECT a, SUM(z) FROM u GROUP BY a", 0, api.ErrNotFound},
		{"SELECT a + 1 FROM u GROUP BY a", 0, api.ErrInvalid},
		{"SELECT 1 FROM u GROUP BY a", 0, api.ErrInvalid},
		{"SELECT NULL FROM u GROUP BY a", 0, api.ErrInvalid},
		{"SELECT a + 'x' FROM u GROUP BY a", 0, api.ErrKind},
		{"SELECT VALIDFROM(u) FROM u GROUP BY a", 3, api.ErrInvalid},
		{"SELECT VALIDFROM(u) FROM u GROUP BY a", 0, api.ErrMode},
		{"SELECT NULL FROM u", 0, api.ErrKind},
		{"SELECT COALESCE(NULL, NULL) FROM u", 0, api.ErrKind},
		{"SELECT COUNT(NULL) FROM u", 0, api.ErrKind},
		{"SELECT SUM(NULL) FROM u", 0, api.ErrKind},
		{"SELECT MIN(IF(TRUE, NULL, NULL)) FROM u", 0, api.ErrKind},
		{"SELECT SUM(e) FROM t", 0, api.ErrKind},
		{"SELECT SUM(c) FROM t", 0, api.ErrKind},
		{"SELECT NULL, z FROM u", 0, api.ErrKind},
		{"SELECT z, NULL FROM u", 0, api.ErrNotFound},
		{"SELECT SUM('x'), a FROM u", 0, api.ErrKind},
		{"SELECT * FROM wide JOIN one ON TRUE", 0, api.ErrColumns},
		{"SELECT 1, 2, 3, 4, 5, 6, 7, 8, 9, 10, 11, 12, 13 FROM u", 0, api.ErrColumns},
		{"SELECT 1, 2, 3, 4, 5, 6, 7, 8, 9, 10, 11, 12, 13, z FROM u", 0, api.ErrNotFound},
		{"SELECT a, a, a, a, a, a, a, a, a, a, a, a, a FROM u GROUP BY a", 0, api.ErrColumns},
		{"SELECT a, a, a, a, a, a, a, a, a, a, a, a, a, c FROM u GROUP BY a", 0, api.ErrInvalid},
	})
}

func TestErrorsOfQueries(t *testing.T) {
	checkBad(t, []bad{
		{"SELECT a FROM u LIMIT 0", 2, api.ErrMode},
		{"SELECT a FROM u ORDER BY 1", 2, api.ErrMode},
		{"SELECT a FROM zz ORDER BY 7 LIMIT 3", 2, api.ErrMode},
		{"SELECT a FROM zz ORDER BY 7", 0, api.ErrNotFound},
		{"SELECT a FROM u ORDER BY 2", 0, api.ErrColumns},
		{"SELECT a, c FROM u ORDER BY 2, 1 DESC, 3", 3, api.ErrColumns},
		{"SELECT a FROM u ORDER BY 1125899906842624", 1, api.ErrColumns},
		{"SELECT a FROM u UNION SELECT a FROM u ORDER BY 2", 0, api.ErrColumns},
		{"SELECT z FROM u UNION SELECT a FROM zz", 0, api.ErrNotFound},
		{"SELECT NULL FROM u UNION SELECT a FROM zz", 0, api.ErrKind},
		{"SELECT a FROM u UNION SELECT NULL FROM u", 0, api.ErrKind},
		{"SELECT a, c FROM u UNION SELECT NULL FROM u", 0, api.ErrKind},
		{"SELECT a FROM u EXCEPT SELECT a, c FROM u", 0, api.ErrColumns},
		{"SELECT a, c FROM u INTERSECT ALL SELECT e FROM t", 0, api.ErrColumns},
		{"SELECT a, c FROM u UNION SELECT a, c FROM t", 0, api.ErrKind},
		{"SELECT a FROM u UNION ALL SELECT e FROM t ORDER BY 2", 0, api.ErrKind},
		{"SELECT a FROM u UNION (SELECT a FROM u UNION SELECT c FROM t)", 0, api.ErrKind},
		{"SELECT e FROM t UNION (SELECT a FROM u UNION SELECT a, a FROM t)", 0, api.ErrColumns},
	})
}

// TestLimits has queries that are just permitted, and others that are not.
func TestLimits(t *testing.T) {
	joined := func(table string, n int) string {
		s := ""
		for i := range n {
			s += " JOIN " + table + " AS j" + string(rune('a'+i/10)) + string(rune('a'+i%10)) + " ON TRUE"
		}
		return s
	}
	repeated := func(s string, n int) string { return strings.Repeat(s+", ", n-1) + s }
	for _, x := range []struct {
		text string
		mode int
		err  api.Errno
	}{
		{"SELECT * FROM wide", 0, api.OK},
		{"SELECT wide.w0 FROM wide" + joined("wide", 3), 0, api.OK},
		{"SELECT wide.w0 FROM wide" + joined("wide", 3) + " JOIN one ON TRUE", 0, api.ErrColumns},
		{"SELECT wide.w0 FROM wide" + joined("wide", 1), 3, api.OK},
		{"SELECT wide.w0 FROM wide" + joined("wide", 1) + " JOIN u ON TRUE JOIN t ON TRUE", 3, api.ErrColumns},
		{"SELECT wide.w0 FROM wide" + joined("wide", 1) + " JOIN u ON TRUE JOIN one ON TRUE", 3, api.OK},
		{"SELECT u.a FROM u" + joined("u", 5) + " JOIN one ON TRUE", 3, api.OK},
		{"SELECT u.a FROM u" + joined("u", 6), 3, api.ErrColumns},
		{"SELECT w0 FROM wide" + joined("one", 22), 0, api.OK},
		{"SELECT w0 FROM wide" + joined("one", 23), 0, api.ErrDepth},
		{"SELECT w0 FROM wide" + joined("one", 22) + " WHERE TRUE", 0, api.ErrDepth},
		{"SELECT w0 FROM wide" + joined("one", 21) + " WHERE TRUE", 0, api.OK},
		{"SELECT DISTINCT w0 FROM wide" + joined("one", 21), 0, api.OK},
		{"SELECT DISTINCT w0 FROM wide" + joined("one", 22), 0, api.ErrDepth},
		{"SELECT COUNT(*) FROM wide" + joined("one", 20), 0, api.OK},
		{"SELECT COUNT(*) FROM wide" + joined("one", 21), 0, api.ErrDepth},
		{"SELECT w0 FROM wide" + joined("one", 36) + " ORDER BY 1", 0, api.ErrDepth},
		{"SELECT w0 FROM wide" + joined("one", 36) + " ORDER BY 2", 0, api.ErrColumns},
		{"SELECT w0 FROM wide" + joined("one", 37), 0, api.ErrColumns},
		{"SELECT a FROM u" + strings.Repeat(" UNION ALL SELECT a FROM u", 22), 0, api.OK},
		{"SELECT a FROM u" + strings.Repeat(" UNION ALL SELECT a FROM u", 23), 0, api.ErrDepth},
		{"SELECT a FROM u" + strings.Repeat(" UNION SELECT a FROM u", 11), 0, api.OK},
		{"SELECT a FROM u" + strings.Repeat(" UNION SELECT a FROM u", 12), 0, api.ErrDepth},
		{"SELECT a FROM u" + strings.Repeat(" EXCEPT SELECT a FROM u", 11), 0, api.OK},
		{"SELECT a FROM u" + strings.Repeat(" EXCEPT SELECT a FROM u", 12), 0, api.ErrDepth},
		{"SELECT " + repeated("a", 12) + " FROM u", 0, api.OK},
		{"SELECT " + repeated("SUM(a)", 12) + " FROM u", 0, api.OK},
		{"SELECT " + repeated("SUM(a)", 13) + " FROM u", 0, api.ErrColumns},
		{"SELECT " + repeated("COUNT(*)", 13) + " FROM u", 0, api.ErrColumns},
		{"SELECT a FROM u GROUP BY " + repeated("a", 48), 0, api.OK},
		{"SELECT a FROM u GROUP BY " + repeated("a", 49), 0, api.ErrColumns},
		{"SELECT c FROM u GROUP BY " + repeated("a", 49), 0, api.ErrInvalid},
		{"SELECT a, SUM(c) FROM u GROUP BY " + repeated("a", 47), 0, api.OK},
		{"SELECT a, SUM(c) FROM u GROUP BY " + repeated("a", 48), 0, api.ErrColumns},
		{"SELECT a, COUNT(*) FROM u GROUP BY " + repeated("a", 48), 0, api.OK},
	} {
		got, err := binder.Query(sample(), 30, x.mode, parsed(t, x.text))
		want, wantErr := bound(sample(), 30, x.mode, parsed(t, x.text))
		if err != x.err || wantErr != x.err || !reflect.DeepEqual(plain(got), plain(want)) {
			t.Errorf("%.90s .. in mode %d: %d; want %d (model %d)", x.text, x.mode, err, x.err, wantErr)
		}
	}
}

// TestQueriesThatAreNotPrintable has an order and combinations that the parser does not yield.
func TestQueriesThatAreNotPrintable(t *testing.T) {
	ordered := parsed(t, "SELECT a FROM u ORDER BY 1")
	ordered.Order[0].Column = -1
	if got, err := binder.Query(sample(), 30, api.ModeCurrent, ordered); !reflect.DeepEqual(got, api.Bound{}) || err != api.ErrColumns {
		t.Error(got, err)
	}
	for n := range 4 {
		q := api.Query{Op: api.QueryUnion, Args: slices.Repeat([]api.Query{parsed(t, "SELECT a FROM u")}, n), Limit: -1}
		if got, err := binder.Query(sample(), 30, api.ModeCurrent, q); n != 2 && (!reflect.DeepEqual(got, api.Bound{}) || err != api.ErrInvalid) {
			t.Error(n, got, err)
		}
	}
}
