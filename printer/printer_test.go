package printer_test

import (
	"reflect"
	"strings"
	"testing"

	"bitemporal/api"
	"bitemporal/printer"
	"bitemporal/schema"
	"bitemporal/syntax"
)

var a, b, c = name("a"), name("b"), name("c")

func num(n int) api.Expr { return constant(integer(n)) }

func str(s string) api.Expr { return constant(api.Value{Kind: api.KindText, Text: s}) }

func truth(n int) api.Expr { return constant(api.Value{Kind: api.KindBool, Int: n}) }

func relate(rel int, l ...api.Expr) api.Expr { return api.Expr{Op: api.OpRelate, Int: rel, Args: l} }

func bound(n int, source string) api.Expr { return api.Expr{Op: api.OpPeriod, Int: n, Name: source} }

func TestExpression(t *testing.T) {
	for want, e := range map[string]api.Expr{
		"a":                                a,
		"t.a":                              name("t.a"),
		"0":                                num(0),
		"-5":                               num(-5),
		"1125899906842624":                 num(api.MaxNumber),
		"-1125899906842624":                num(-api.MaxNumber),
		"NULL":                             constant(api.Value{}),
		"TRUE":                             truth(1),
		"FALSE":                            truth(0),
		"''":                               str(""),
		"'it''s ('":                        str("it's ("),
		"(a OR b) AND c":                   operation(api.OpAnd, operation(api.OpOr, a, b), c),
		"a AND b AND c":                    operation(api.OpAnd, a, b, c),
		"(a AND b) AND c":                  operation(api.OpAnd, operation(api.OpAnd, a, b), c),
		"a AND (b AND c)":                  operation(api.OpAnd, a, operation(api.OpAnd, b, c)),
		"a OR b AND c OR a":                operation(api.OpOr, a, operation(api.OpAnd, b, c), a),
		"a OR (b OR c)":                    operation(api.OpOr, a, operation(api.OpOr, b, c)),
		"NOT NOT a":                        operation(api.OpNot, operation(api.OpNot, a)),
		"NOT (a OR b) AND NOT c":           operation(api.OpAnd, operation(api.OpNot, operation(api.OpOr, a, b)), operation(api.OpNot, c)),
		"(NOT a) = b":                      operation(api.OpEq, operation(api.OpNot, a), b),
		"NOT a = b":                        operation(api.OpNot, operation(api.OpEq, a, b)),
		"NOT a IS NULL":                    operation(api.OpNot, operation(api.OpIsNull, a)),
		"(a IS NULL) IS NULL":              operation(api.OpIsNull, operation(api.OpIsNull, a)),
		"a + b IS NULL":                    operation(api.OpIsNull, operation(api.OpAdd, a, b)),
		"(a < b) <> (a >= c)":              operation(api.OpNe, operation(api.OpLt, a, b), operation(api.OpGe, a, c)),
		"a <= b":                           operation(api.OpLe, a, b),
		"a > b":                            operation(api.OpGt, a, b),
		"a - b - c":                        operation(api.OpSub, operation(api.OpSub, a, b), c),
		"a - (b - c)":                      operation(api.OpSub, a, operation(api.OpSub, b, c)),
		"a || b + c":                       operation(api.OpAdd, operation(api.OpConcat, a, b), c),
		"a * b / c % 2":                    operation(api.OpMod, operation(api.OpDiv, operation(api.OpMul, a, b), c), num(2)),
		"a * (b / c)":                      operation(api.OpMul, a, operation(api.OpDiv, b, c)),
		"(a + b) * c":                      operation(api.OpMul, operation(api.OpAdd, a, b), c),
		"a + b * c":                        operation(api.OpAdd, a, operation(api.OpMul, b, c)),
		"-a":                               operation(api.OpNeg, a),
		"-(5)":                             operation(api.OpNeg, num(5)),
		"-(0)":                             operation(api.OpNeg, num(0)),
		"-(-5)":                            operation(api.OpNeg, num(-5)),
		"-(-a)":                            operation(api.OpNeg, operation(api.OpNeg, a)),
		"-(-(5))":                          operation(api.OpNeg, operation(api.OpNeg, num(5))),
		"-'5'":                             operation(api.OpNeg, str("5")),
		"-NULL":                            operation(api.OpNeg, constant(api.Value{})),
		"-TRUE":                            operation(api.OpNeg, truth(1)),
		"-(a * b)":                         operation(api.OpNeg, operation(api.OpMul, a, b)),
		"-LENGTH(a)":                       operation(api.OpNeg, operation(api.OpLength, a)),
		"a - -5":                           operation(api.OpSub, a, num(-5)),
		"a - -b":                           operation(api.OpSub, a, operation(api.OpNeg, b)),
		"-a * -5":                          operation(api.OpMul, operation(api.OpNeg, a), num(-5)),
		"IF(a OR b, -5, c = a)":            operation(api.OpIf, operation(api.OpOr, a, b), num(-5), operation(api.OpEq, c, a)),
		"COALESCE(a)":                      operation(api.OpCoalesce, a),
		"COALESCE(a, NULL, 'x')":           operation(api.OpCoalesce, a, constant(api.Value{}), str("x")),
		"LENGTH(a || b) + 1":               operation(api.OpAdd, operation(api.OpLength, operation(api.OpConcat, a, b)), num(1)),
		"VALIDFROM(t)":                     bound(api.BoundValidFrom, "t"),
		"VALIDTO(t)":                       bound(api.BoundValidTo, "t"),
		"SYSTEMFROM(t)":                    bound(api.BoundSystemFrom, "t"),
		"SYSTEMTO(t)":                      bound(api.BoundSystemTo, "t"),
		"-TX(t) + 1":                       operation(api.OpAdd, operation(api.OpNeg, bound(api.BoundBy, "t")), num(1)),
		"NOT a MEETS b":                    operation(api.OpNot, relate(api.Meets, a, b)),
		"(a OVERLAPPEDBY b) = (b AFTER a)": operation(api.OpEq, relate(api.OverlappedBy, a, b), relate(api.After, b, a)),
	} {
		if got, err := printer.Expression(e); got != want || err != api.OK {
			t.Errorf("%q, %d; want %q", got, err, want)
		}
		if got, _, err := syntax.Expression(want); !reflect.DeepEqual(plain(got), e) || err != api.OK {
			t.Errorf("%q yields %v, %d", want, got, err)
		}
	}
}

func TestRelationsAndBounds(t *testing.T) {
	for rel, word := range relations {
		if got, err := printer.Expression(relate(rel, a, b)); got != "a "+word+" b" || err != api.OK {
			t.Error(rel, got, err)
		}
	}
}

// TestLevels compares the parentheses around every operand with the levels of the chapter.
func TestLevels(t *testing.T) {
	operands := []api.Expr{a, num(5), num(-5), num(-1), str("x"), truth(0), constant(api.Value{}), bound(0, "t"), relate(api.Before, a, b), operation(api.OpLength, a), operation(api.OpCoalesce, a), operation(api.OpIf, a, b, c)}
	for op, r := range requirements {
		switch len(r.operands) {
		case 1:
			operands = append(operands, operation(op, a))
		case 2:
			operands = append(operands, operation(op, a, b))
		}
	}
	for op, r := range requirements {
		for at, least := range r.operands {
			for _, x := range operands {
				inner, _ := printer.Expression(x)
				bare := operation(op, a, b, c)
				bare.Args = bare.Args[:len(r.operands)]
				bare.Args[at] = name("x")
				want, _ := printer.Expression(bare)
				if levelOf(x) < least || op == api.OpNeg && isInteger(x) {
					inner = "(" + inner + ")"
				}
				want = strings.Replace(want, "x", inner, 1)
				bare.Args[at] = x
				if got, err := printer.Expression(bare); got != want || err != api.OK {
					t.Errorf("%q, %d; want %q", got, err, want)
				}
			}
		}
	}
}

// with returns e with a change of its own fields.
func with(e api.Expr, change func(e *api.Expr)) api.Expr {
	change(&e)
	return e
}

func TestExpressionsThatAreNotPrintable(t *testing.T) {
	number := func(e *api.Expr) { e.Int = 1 }
	value := func(e *api.Expr) { e.Value.Int = 1 }
	name1 := func(e *api.Expr) { e.Name = "a" }
	arg := func(e *api.Expr) { e.Args = append([]api.Expr{a}, e.Args...) }
	l := []api.Expr{
		{}, {Op: -1}, {Op: 99}, {Op: api.OpColumn}, operation(api.OpAllen, num(1), num(2), num(3), num(4)), operation(api.OpAnd, a, api.Expr{Op: api.OpColumn}),
		name(""), name("A"), name("select"), name("9a"), name("a b"), name("a."), name(".a"), name("."), name("a.b.c"), name("a..b"), name("t.select"), name("t.A"), name("select.a"), name("a .b"), name("a. b"), name(" a"), name("a\n"), name(strings.Repeat("a", 25)), name("t." + strings.Repeat("a", 25)),
		num(api.MaxNumber + 1), num(-api.MaxNumber - 1), truth(2), truth(-1), str("\n"), str("\x7f"), str("é"), str(strings.Repeat("x", 201)), constant(api.Value{Kind: 4}), constant(api.Value{Kind: -1}), constant(api.Value{Int: 1}), constant(api.Value{Text: "x"}), constant(api.Value{Kind: api.KindInt, Text: "x"}), constant(api.Value{Kind: api.KindText, Int: 1}), constant(api.Value{Kind: api.KindBool, Text: "x"}),
		operation(api.OpNot), operation(api.OpAnd), operation(api.OpAnd, a), operation(api.OpOr, a), operation(api.OpEq, a), operation(api.OpLt, a, b, c), operation(api.OpAdd, a, b, c), operation(api.OpSub, a), operation(api.OpConcat, a), operation(api.OpMod), operation(api.OpNeg), operation(api.OpNeg, a, b), operation(api.OpIsNull, a, b), operation(api.OpLength), operation(api.OpIf, a, b), operation(api.OpIf, a, b, c, a), operation(api.OpCoalesce),
		bound(-1, "t"), bound(api.Bounds, "t"), bound(0, ""), bound(0, "t.a"), bound(0, "where"),
		relate(-1, a, b), relate(api.Relations, a, b), relate(0, a), relate(0), relate(0, a, b, c), relate(0, a, name("t.b")), relate(0, name("t.a"), b), relate(0, num(1), b), relate(0, a, name("")), relate(0, a, with(b, number)), relate(0, with(a, arg), b), relate(0, a, with(b, value)),
	}
	for _, good := range []api.Expr{a, num(5), relate(0, a, b), bound(0, "t"), operation(api.OpNot, a), operation(api.OpAnd, a, b), operation(api.OpLe, a, b), operation(api.OpMul, a, b), operation(api.OpNeg, a), operation(api.OpLength, a), operation(api.OpIsNull, a), operation(api.OpIf, a, b, c), operation(api.OpCoalesce, a)} {
		if _, err := printer.Expression(good); err != api.OK {
			t.Error(good, err)
		}
		if good.Op != api.OpPeriod && good.Op != api.OpRelate {
			l = append(l, with(good, number))
		}
		if good.Op != api.OpConst {
			l = append(l, with(good, value))
		}
		if good.Op != api.OpName && good.Op != api.OpPeriod {
			l = append(l, with(good, name1))
		}
		if good.Op != api.OpAnd && good.Op != api.OpCoalesce {
			l = append(l, with(good, arg))
		}
	}
	for _, e := range l {
		for _, e := range []api.Expr{e, operation(api.OpNot, e), operation(api.OpIf, a, e, b)} {
			if got, err := printer.Expression(e); got != "" || err != api.ErrInvalid {
				t.Errorf("%+v: %q, %d", e, got, err)
			}
		}
	}
}

// under returns e under n operators.
func under(e api.Expr, n int) api.Expr {
	for range n {
		e = operation(api.OpNot, e)
	}
	return e
}

func star(table string) api.Query {
	return api.Query{Select: api.Select{Items: []api.Item{{Star: true}}, From: api.Source{Table: table, Under: -1}}, Limit: -1}
}

func combination(op int, all bool, a, b api.Query) api.Query {
	return api.Query{Op: op, All: all, Args: []api.Query{a, b}, Limit: -1}
}

// union returns a combination of n selects.
func union(n int) api.Query {
	q := star("t")
	for range n - 1 {
		q = combination(api.QueryUnion, true, q, star("t"))
	}
	return q
}

func TestDepths(t *testing.T) {
	bad := api.Expr{Op: 99}
	for _, s := range []api.Statement{{Where: under(a, 24)}, {Checks: []api.Expr{a, under(a, 24)}}, {Table: api.Table{Checks: []api.Expr{bad, under(a, 24)}}}, {Rows: [][]api.Expr{{}, {a, under(a, 24)}}}, {Sets: []api.Set{{}, {Expr: under(a, 24)}}}} {
		if got, err := printer.Statement(s); got != "" || err != api.ErrDepth {
			t.Error(got, err)
		}
	}
	if got, err := printer.Expression(under(a, 23)); got != strings.Repeat("NOT ", 23)+"a" || err != api.OK {
		t.Error(got, err)
	}
	if _, err := printer.Expression(under(relate(0, a, b), 22)); err != api.OK {
		t.Error(err)
	}
	for _, e := range []api.Expr{under(a, 24), under(a, 60000), under(relate(0, a, b), 23), operation(api.OpCoalesce, bad, under(a, 23)), under(bad, 24), {Op: 99, Args: []api.Expr{under(a, 23)}}} {
		if got, err := printer.Expression(e); got != "" || err != api.ErrDepth {
			t.Error(got, err)
		}
	}
	if _, err := printer.Query(union(24)); err != api.OK {
		t.Error(err)
	}
	invalid := union(25)
	invalid.Args[0].Limit = 0
	for _, q := range []api.Query{union(25), union(60000), combination(api.QueryUnion, true, star("t"), union(24)), invalid} {
		if got, err := printer.Query(q); got != "" || err != api.ErrDepth {
			t.Error(got, err)
		}
		if got, err := printer.Statement(api.Statement{Kind: api.StmtQuery, Query: q}); got != "" || err != api.ErrDepth {
			t.Error(got, err)
		}
	}
}

// TestDepthsWithin has an expression that is just deep enough, and one that is too deep, at every place; also in
// fields that are not used, and together with other errors.
func TestDepthsWithin(t *testing.T) {
	m := newMaker(5)
	places := 0
	for range 2000 {
		s := m.statement()
		if m.chance(3) {
			m.damage(reflect.ValueOf(&s).Elem())
		}
		if depth(reflect.ValueOf(s)) > 12 {
			continue
		}
		q := s.Query
		checkDepthsWithin(t, m, reflect.ValueOf(&q).Elem(), func() (string, api.Errno) { return printer.Query(q) })
		m.left = m.next(8)
		s.Query = m.query()
		checkDepthsWithin(t, m, reflect.ValueOf(&s).Elem(), func() (string, api.Errno) { return printer.Statement(s) })
		places++
	}
	if places < 1000 {
		t.Error("too few expressions:", places)
	}
}

// checkDepthsWithin exchanges an expression within v, which print prints.
func checkDepthsWithin(t *testing.T, m *maker, v reflect.Value, print func() (string, api.Errno)) {
	t.Helper()
	var l []reflect.Value
	expressions(v, func(e reflect.Value) { l = append(l, e) })
	e := l[m.next(len(l))]
	old := e.Interface().(api.Expr)
	e.Set(reflect.ValueOf(under(a, 23)))
	if _, err := print(); err == api.ErrDepth {
		t.Fatalf("%+v: %d", v, err)
	}
	e.Set(reflect.ValueOf(under(old, 24)))
	if got, err := print(); got != "" || err != api.ErrDepth {
		t.Fatalf("%+v: %q, %d", v, got, err)
	}
}

// expressions calls f with each expression within v that is no part of another one.
func expressions(v reflect.Value, f func(reflect.Value)) {
	if v.Type() == reflect.TypeFor[api.Expr]() {
		f(v)
		return
	}
	switch v.Kind() {
	case reflect.Struct:
		for i := range v.NumField() {
			expressions(v.Field(i), f)
		}
	case reflect.Slice:
		for i := range v.Len() {
			expressions(v.Index(i), f)
		}
	}
}

func TestLengths(t *testing.T) {
	list := func(n int) []api.Expr {
		l := make([]api.Expr, n)
		for i := range l {
			l[i] = num(7)
		}
		return l
	}
	// Each element but the last has three bytes: 7, a comma and a space.
	fits := (api.MaxSource - len("COALESCE()") - 1) / 3
	for n, want := range []api.Errno{api.OK, api.OK, api.OK, api.ErrTooLong} {
		e := operation(api.OpCoalesce, append(list(fits), name(strings.Repeat("a", n+1)))...)
		got, err := printer.Expression(e)
		wantLength := len("COALESCE()") + 3*fits + n + 1
		if (wantLength <= api.MaxSource) != (want == api.OK) {
			t.Fatal("the test is wrong", wantLength)
		}
		if err != want || want == api.OK && len(got) != wantLength || want != api.OK && got != "" {
			t.Error(n, len(got), err)
		}
	}
	long := operation(api.OpCoalesce, list(api.MaxSource)...)
	q := star("t")
	q.Select.HasWhere, q.Select.Where = true, long
	if got, err := printer.Query(q); got != "" || err != api.ErrTooLong {
		t.Error(len(got), err)
	}
	if got, err := printer.Statement(api.Statement{Kind: api.StmtQuery, Query: q}); got != "" || err != api.ErrTooLong {
		t.Error(len(got), err)
	}
	q.Select.GroupBy = []api.Expr{num(1)}
	if got, err := printer.Query(q); got != "" || err != api.ErrInvalid {
		t.Error(len(got), err)
	}
	if got, err := printer.Expression(operation(api.OpNot, long, long)); got != "" || err != api.ErrInvalid {
		t.Error(len(got), err)
	}
	table := small()
	table.Checks = []api.Expr{operation(api.OpIsNull, long)}
	if got, err := printer.Table(table); got != "" || err != api.ErrTooLong {
		t.Error(len(got), err)
	}
}

func small() api.Table {
	return api.Table{Name: "t", Columns: []api.Column{{Name: "a", Kind: api.KindInt}, {Name: "b", Kind: api.KindText, Nullable: true}, {Name: "c", Kind: api.KindBool}}, Key: []int{0}}
}

func TestTable(t *testing.T) {
	column := func(i int) api.Expr { return api.Expr{Op: api.OpColumn, Int: i} }
	full := small()
	full.Key = []int{0, 2}
	full.Foreigns = []api.Foreign{{Columns: []int{1, 0}, Table: "u"}, {Columns: []int{2}, Table: "t"}}
	full.Checks = []api.Expr{operation(api.OpGt, column(0), num(0)), operation(api.OpOr, column(2), operation(api.OpEq, column(1), str("x"))), constant(api.Value{})}
	allen := small()
	allen.Checks = []api.Expr{{Op: api.OpAllen, Args: []api.Expr{num(1), num(2), column(0), num(4)}}}
	within := small()
	within.Checks = []api.Expr{truth(1), operation(api.OpNot, allen.Checks[0])}
	deep := small()
	deep.Checks = []api.Expr{under(column(2), 24)}
	deepest := small()
	deepest.Checks = []api.Expr{under(column(2), 23)}
	outside := small()
	outside.Checks = []api.Expr{operation(api.OpIsNull, column(3))}
	named := small()
	named.Checks = []api.Expr{name("c")}
	kind := small()
	kind.Checks = []api.Expr{column(0)}
	key := small()
	key.Key = []int{1}
	for _, x := range []struct {
		t    api.Table
		want string
		err  api.Errno
	}{
		{small(), "CREATE TABLE t (a INT, b TEXT NULL, c BOOL, PRIMARY KEY (a))", api.OK},
		{full, "CREATE TABLE t (a INT, b TEXT NULL, c BOOL, PRIMARY KEY (a, c), FOREIGN KEY (b, a) REFERENCES u, FOREIGN KEY (c) REFERENCES t, CHECK (a > 0), CHECK (c OR b = 'x'), CHECK (NULL))", api.OK},
		{deepest, "CREATE TABLE t (a INT, b TEXT NULL, c BOOL, PRIMARY KEY (a), CHECK (" + strings.Repeat("NOT ", 23) + "c))", api.OK},
		{allen, "", api.ErrInvalid}, {within, "", api.ErrInvalid}, {deep, "", api.ErrInvalid}, {outside, "", api.ErrInvalid}, {named, "", api.ErrInvalid}, {kind, "", api.ErrInvalid}, {key, "", api.ErrInvalid}, {api.Table{}, "", api.ErrInvalid},
	} {
		before := schema.Clone(x.t)
		if got, err := printer.Table(x.t); got != x.want || err != x.err {
			t.Errorf("%q, %d; want %q, %d", got, err, x.want, x.err)
		}
		if !schema.Same(before, x.t) {
			t.Error("a table was changed", x.t)
		}
	}
}

// TestTablesRoundTrip parses what Table returns for random definitions, also invalid ones.
func TestTablesRoundTrip(t *testing.T) {
	m, seen := newMaker(6), map[api.Errno]int{}
	for range 20000 {
		d := m.table()
		for i := range d.Columns {
			d.Columns[i].Name += strings.Repeat("_", i)
			d.Columns[i].Nullable = false
		}
		d.Key = []int{m.next(len(d.Columns))}
		for range m.next(3) {
			i := m.next(len(d.Columns))
			d.Checks = append(d.Checks, operation(api.OpNot, operation(api.OpIsNull, api.Expr{Op: api.OpColumn, Int: i})))
		}
		if m.chance(2) {
			m.damage(reflect.ValueOf(&d).Elem())
		}
		got, err := printer.Table(d)
		seen[err]++
		if (err == api.OK) != (schema.Check(d) == api.OK) || err != api.OK && err != api.ErrInvalid {
			t.Fatalf("%+v: %q, %d", d, got, err)
		}
		if err != api.OK {
			continue
		}
		want := api.Statement{Kind: api.StmtCreate, Table: d, Checks: d.Checks}
		want.Table.Checks = nil
		want.Checks = nil
		for _, e := range d.Checks {
			want.Checks = append(want.Checks, unbound(d, e))
		}
		s, _, parseErr := syntax.Statement(got)
		if !printer.Same(s, want) || parseErr != api.OK || got != text(canonical().statement(want)) {
			t.Fatalf("%+v: %q yields %+v, %d", d, got, s, parseErr)
		}
	}
	if seen[api.OK] < 5000 || seen[api.ErrInvalid] < 3000 {
		t.Error(seen)
	}
}

// unbound returns e with the names of columns.
func unbound(t api.Table, e api.Expr) api.Expr {
	if e.Op == api.OpColumn {
		return name(t.Columns[e.Int].Name)
	}
	var args []api.Expr
	for _, x := range e.Args {
		args = append(args, unbound(t, x))
	}
	e.Args = args
	return e
}
