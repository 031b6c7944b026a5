package binder_test

import (
	"reflect"
	"slices"
	"testing"

	"bitemporal/api"
	"bitemporal/binder"
	"bitemporal/expr"
	"bitemporal/schema"
	"bitemporal/syntax"
	"bitemporal/tuple"
)

// expression returns what a text yields.
func expression(t *testing.T, text string) api.Expr {
	t.Helper()
	e, at, err := syntax.Expression(text)
	if err != api.OK {
		t.Fatalf("%q: %d, %d", text, at, err)
	}
	return e
}

func expressions(t *testing.T, texts ...string) []api.Expr {
	t.Helper()
	var l []api.Expr
	for _, s := range texts {
		l = append(l, expression(t, s))
	}
	return l
}

// table is t (a INT, b TEXT NULL, c BOOL).
func table() api.Table { return sample()[0].Create }

// expected binds an expression over the columns of a table as the chapter says.
func expected(t api.Table, e api.Expr) (api.Expr, int, api.Errno) {
	type kindOf struct {
		e    api.Expr
		kind int
	}
	m := &model{mode: api.ModeCurrent}
	x, err := tried(func() kindOf {
		e, kind := m.expr(m.columnsOf(t.Name, t), e)
		return kindOf{e, kind}
	})
	return x.e, x.kind, err
}

func TestWhere(t *testing.T) {
	for _, x := range []struct {
		text string
		want api.Expr
		err  api.Errno
	}{
		{"c", column(2), api.OK},
		{"t.a > 1 AND b = 'x'", operation(api.OpAnd, operation(api.OpGt, column(0), num(1)), operation(api.OpEq, column(1), constant(api.Value{Kind: api.KindText, Text: "x"}))), api.OK},
		{"NULL", null(), api.OK},
		{"TRUE", truth(1), api.OK},
		{"a", api.Expr{}, api.ErrKind},
		{"b || b", api.Expr{}, api.ErrKind},
		{"a = b", api.Expr{}, api.ErrKind},
		{"z", api.Expr{}, api.ErrNotFound},
		{"x.a = 1", api.Expr{}, api.ErrNotFound},
		{"t.z", api.Expr{}, api.ErrNotFound},
		{"VALIDFROM(t) = 1", api.Expr{}, api.ErrMode},
		{"VALIDFROM(z) = 1", api.Expr{}, api.ErrMode},
		{"t MEETS t", api.Expr{}, api.ErrMode},
		{"a = b OR z", api.Expr{}, api.ErrNotFound},
		{"a = b OR VALIDFROM(t) = z", api.Expr{}, api.ErrMode},
	} {
		got, err := binder.Where(table(), expression(t, x.text))
		if !expr.Same(got, x.want) || err != x.err {
			t.Errorf("%s: %+v, %d; want %+v, %d", x.text, got, err, x.want, x.err)
		}
	}
}

func TestRows(t *testing.T) {
	row := func(texts ...string) []api.Expr { return expressions(t, texts...) }
	good := row("1", "'x'", "TRUE")
	for i, x := range []struct {
		l    [][]api.Expr
		want []string
		err  api.Errno
	}{
		{nil, nil, api.OK},
		{[][]api.Expr{good}, []string{"(1, 'x', TRUE)"}, api.OK},
		{[][]api.Expr{row("1 + 1", "'x' || 'y'", "1 = 2"), row("-3", "NULL", "NOT FALSE"), row("-3", "1 = NULL", "NULL IS NULL")}, []string{"(2, 'xy', FALSE)", "(-3, NULL, TRUE)", "(-3, NULL, TRUE)"}, api.OK},
		{[][]api.Expr{row("LENGTH('abc')", "IF(FALSE, 'x', NULL)", "COALESCE(NULL, TRUE)")}, []string{"(3, NULL, TRUE)"}, api.OK},
		{[][]api.Expr{row("1", "'x'")}, nil, api.ErrColumns},
		{[][]api.Expr{nil}, nil, api.ErrColumns},
		{[][]api.Expr{row("1", "'x'", "TRUE", "TRUE")}, nil, api.ErrColumns},
		{[][]api.Expr{row("a", "'x'", "TRUE", "TRUE")}, nil, api.ErrColumns},
		{[][]api.Expr{row("a", "'x'", "TRUE")}, nil, api.ErrNotFound},
		{[][]api.Expr{row("t.a", "'x'", "TRUE")}, nil, api.ErrNotFound},
		{[][]api.Expr{row("VALIDFROM(t)", "'x'", "TRUE")}, nil, api.ErrMode},
		{[][]api.Expr{row("1", "'x'", "t MEETS t")}, nil, api.ErrMode},
		{[][]api.Expr{row("1 + 'x'", "'x'", "TRUE")}, nil, api.ErrKind},
		{[][]api.Expr{row("'x'", "'x'", "TRUE")}, nil, api.ErrKind},
		{[][]api.Expr{row("NULL", "'x'", "TRUE")}, nil, api.ErrNull},
		{[][]api.Expr{row("1 / 0", "'x'", "TRUE")}, nil, api.ErrNull},
		{[][]api.Expr{row("1", "'x'", "NULL")}, nil, api.ErrNull},
		{[][]api.Expr{row("NULL", "z", "TRUE")}, nil, api.ErrNotFound},
		{[][]api.Expr{row("NULL", "'x' + 1", "TRUE")}, nil, api.ErrKind},
		{[][]api.Expr{row("NULL", "1", "TRUE")}, nil, api.ErrNull},
		{[][]api.Expr{row("1", "1", "NULL")}, nil, api.ErrKind},
		{[][]api.Expr{row("z", "1 + 'x'", "TRUE")}, nil, api.ErrNotFound},
		{[][]api.Expr{row("1 + 'x'", "z", "TRUE")}, nil, api.ErrKind},
		{[][]api.Expr{good, row("NULL", "'x'", "TRUE"), row("z")}, nil, api.ErrNull},
		{[][]api.Expr{good, row("z"), row("NULL", "'x'", "TRUE")}, nil, api.ErrColumns},
		{slices.Repeat([][]api.Expr{good}, api.MaxRows), slices.Repeat([]string{"(1, 'x', TRUE)"}, api.MaxRows), api.OK},
		{slices.Repeat([][]api.Expr{good}, api.MaxRows+1), nil, api.ErrTooLong},
		{slices.Repeat([][]api.Expr{nil}, api.MaxRows+1), nil, api.ErrTooLong},
	} {
		got, err := binder.Rows(table(), x.l)
		var texts []string
		for _, r := range got {
			texts = append(texts, tuple.Text(r))
		}
		if !slices.Equal(texts, x.want) || err != x.err {
			t.Errorf("case %d: %v, %d; want %v, %d", i, texts, err, x.want, x.err)
		}
		if sharesMemory(got, x.l) {
			t.Errorf("case %d: the rows share memory", i)
		}
	}
}

func TestSets(t *testing.T) {
	set := func(name, text string) api.Set { return api.Set{Name: name, Expr: expression(t, text)} }
	c0, c1, c2 := column(0), column(1), column(2)
	for i, x := range []struct {
		l    []api.Set
		want []api.Expr
		err  api.Errno
	}{
		{nil, []api.Expr{c0, c1, c2}, api.OK},
		{[]api.Set{set("b", "b || 'x'")}, []api.Expr{c0, operation(api.OpConcat, c1, expression(t, "'x'")), c2}, api.OK},
		{[]api.Set{set("c", "t.a = 1"), set("a", "LENGTH(b)"), set("b", "NULL")}, []api.Expr{operation(api.OpLength, c1), null(), operation(api.OpEq, c0, num(1))}, api.OK},
		{[]api.Set{set("a", "NULL")}, []api.Expr{null(), c1, c2}, api.OK},
		{[]api.Set{set("a", "a"), set("b", "b")}, []api.Expr{c0, c1, c2}, api.OK},
		{[]api.Set{set("z", "1")}, nil, api.ErrNotFound},
		{[]api.Set{{Name: "t.a", Expr: num(1)}}, nil, api.ErrNotFound},
		{[]api.Set{set("a", "1"), set("a", "1")}, nil, api.ErrExists},
		{[]api.Set{set("a", "1"), set("a", "z")}, nil, api.ErrExists},
		{[]api.Set{set("z", "q")}, nil, api.ErrNotFound},
		{[]api.Set{set("a", "q")}, nil, api.ErrNotFound},
		{[]api.Set{set("a", "u.a")}, nil, api.ErrNotFound},
		{[]api.Set{set("a", "VALIDTO(t)")}, nil, api.ErrMode},
		{[]api.Set{set("c", "t AFTER t")}, nil, api.ErrMode},
		{[]api.Set{set("a", "1 + 'x'")}, nil, api.ErrKind},
		{[]api.Set{set("a", "b")}, nil, api.ErrKind},
		{[]api.Set{set("b", "1")}, nil, api.ErrKind},
		{[]api.Set{set("c", "a")}, nil, api.ErrKind},
		{[]api.Set{set("a", "b"), set("z", "1")}, nil, api.ErrKind},
		{[]api.Set{set("z", "1"), set("a", "b")}, nil, api.ErrNotFound},
		{[]api.Set{set("a", "1"), set("b", "b"), set("a", "b")}, nil, api.ErrExists},
	} {
		got, err := binder.Sets(table(), x.l)
		if !slices.EqualFunc(got, x.want, expr.Same) || err != x.err {
			t.Errorf("case %d: %+v, %d; want %+v, %d", i, got, err, x.want, x.err)
		}
		if sharesMemory(got, x.l) {
			t.Errorf("case %d: the expressions share memory", i)
		}
	}
}

func TestCreate(t *testing.T) {
	checked := func(l ...api.Expr) api.Table {
		d := table()
		d.Foreigns = []api.Foreign{{Columns: []int{0}, Table: "u"}}
		d.Checks = l
		return d
	}
	plain := checked()
	badly := checked()
	badly.Key = []int{1}
	for i, x := range []struct {
		t      api.Table
		checks []api.Expr
		want   api.Table
		err    api.Errno
	}{
		{plain, nil, plain, api.OK},
		{plain, expressions(t, "a > 0 OR b IS NULL", "t.c", "NULL", "TRUE"), checked(operation(api.OpOr, operation(api.OpGt, column(0), num(0)), operation(api.OpIsNull, column(1))), column(2), null(), truth(1)), api.OK},
		{checked(truth(1)), expressions(t, "c"), checked(column(2)), api.OK},
		{checked(truth(1)), nil, plain, api.OK},
		{checked(column(9)), expressions(t, "c"), checked(column(2)), api.OK},
		{plain, expressions(t, "a"), api.Table{}, api.ErrKind},
		{plain, expressions(t, "a + b"), api.Table{}, api.ErrKind},
		{plain, expressions(t, "z"), api.Table{}, api.ErrNotFound},
		{plain, expressions(t, "u.a = 1"), api.Table{}, api.ErrNotFound},
		{plain, expressions(t, "TX(t) = 1"), api.Table{}, api.ErrMode},
		{plain, expressions(t, "t DURING t"), api.Table{}, api.ErrMode},
		{plain, expressions(t, "a", "z"), api.Table{}, api.ErrNotFound},
		{plain, expressions(t, "z", "a + b"), api.Table{}, api.ErrNotFound},
		{plain, expressions(t, "a + b", "z"), api.Table{}, api.ErrKind},
		{plain, expressions(t, "c", "c", "c", "c", "c"), api.Table{}, api.ErrTooLong},
		{plain, expressions(t, "a", "c", "c", "c", "c"), api.Table{}, api.ErrTooLong},
		{plain, expressions(t, "c", "c", "c", "c", "z"), api.Table{}, api.ErrNotFound},
		{badly, expressions(t, "z"), api.Table{}, api.ErrNull},
		{badly, nil, api.Table{}, api.ErrNull},
		{api.Table{}, expressions(t, "z"), api.Table{}, api.ErrSyntax},
	} {
		before := schema.Clone(x.t)
		got, err := binder.Create(x.t, x.checks)
		if !schema.Same(got, x.want) || err != x.err {
			t.Errorf("case %d: %+v, %d; want %+v, %d", i, got, err, x.want, x.err)
		}
		if sharesMemory(got, x.t, x.checks) || !schema.Same(before, x.t) {
			t.Errorf("case %d: the definition shares memory or was changed", i)
		}
	}
}

// TestRandomExpressions compares Where, Sets and Create for random expressions with the model.
func TestRandomExpressions(t *testing.T) {
	m, seen := newMaker(4), map[api.Errno]int{}
	for range 30000 {
		d := sample()[m.next(4)].Create
		l := m.sees(api.Select{From: api.Source{Table: d.Name, Under: 12}})
		m.odd = []int{20, 200}[m.next(2)]
		kind := m.kind()
		e := m.expression(l, kind)
		want, wantKind, wantErr := expected(d, e)
		seen[wantErr]++
		condition, conditionErr := want, wantErr
		if wantErr == api.OK && wantKind != api.KindBool && wantKind != api.KindNull {
			condition, conditionErr = api.Expr{}, api.ErrKind
		}
		if got, err := binder.Where(d, e); !expr.Same(got, condition) || err != conditionErr || sharesMemory(got, e) {
			t.Fatalf("Where of %+v: %+v, %d; want %+v, %d", e, got, err, condition, conditionErr)
		}
		checked := api.Table{}
		if conditionErr == api.OK {
			checked = schema.Clone(d)
			checked.Checks = []api.Expr{condition}
		}
		if got, err := binder.Create(d, []api.Expr{e}); !schema.Same(got, checked) || err != conditionErr {
			t.Fatalf("Create with %+v: %+v, %d; want %+v, %d", e, got, err, checked, conditionErr)
		}
		i := m.next(len(d.Columns))
		if wantErr == api.OK && wantKind != d.Columns[i].Kind && wantKind != api.KindNull {
			wantErr = api.ErrKind
		}
		got, err := binder.Sets(d, []api.Set{{Name: d.Columns[i].Name, Expr: e}})
		if err != wantErr || wantErr != api.OK && len(got) != 0 {
			t.Fatalf("Sets of %+v: %+v, %d; want %d", e, got, err, wantErr)
		}
		if err == api.OK && (len(got) != len(d.Columns) || !expr.Same(got[i], want)) {
			t.Fatalf("Sets of %+v: %+v; want %+v", e, got, want)
		}
	}
	for _, err := range []api.Errno{api.OK, api.ErrKind, api.ErrNotFound, api.ErrMode} {
		if seen[err] < 200 {
			t.Errorf("only %d expressions with the error %d", seen[err], err)
		}
	}
}

// TestRandomRows compares Rows for random expressions without columns with their values.
func TestRandomRows(t *testing.T) {
	m, seen := newMaker(5), map[api.Errno]int{}
	for range 20000 {
		d := sample()[m.next(2)].Create
		m.odd = []int{20, 200}[m.next(2)]
		var want []api.Value
		var l []api.Expr
		wantErr := api.OK
		for _, c := range d.Columns {
			e := m.expression(nil, c.Kind)
			_, _, err := expected(api.Table{Name: ""}, e)
			if wantErr == api.OK {
				wantErr = err
			}
			l, want = append(l, e), append(want, expr.Eval(e, nil))
		}
		if wantErr == api.OK {
			wantErr = schema.Accepts(d, want)
		}
		seen[wantErr]++
		got, err := binder.Rows(d, [][]api.Expr{l})
		if err != wantErr || err == api.OK && (len(got) != 1 || !slices.Equal(got[0], want)) || err != api.OK && len(got) != 0 {
			t.Fatalf("%+v: %v, %d; want %v, %d", l, got, err, want, wantErr)
		}
	}
	for _, err := range []api.Errno{api.OK, api.ErrKind, api.ErrNotFound, api.ErrMode, api.ErrNull} {
		if seen[err] < 50 {
			t.Errorf("only %d rows with the error %d", seen[err], err)
		}
	}
}

// TestEmptyListsWithCapacity has empty lists of arguments with memory behind them, which results must not share.
func TestEmptyListsWithCapacity(t *testing.T) {
	e := truth(1)
	e.Args = make([]api.Expr, 0, 4)
	q := parsed(t, "SELECT a FROM u WHERE TRUE ORDER BY 1")
	q.Select.Where = e
	q.Order = append(make([]api.Order, 0, 4), q.Order...)
	b, err := binder.Query(sample(), 30, api.ModeCurrent, q)
	if err != api.OK || sharesMemory(b, q) {
		t.Error(b, err)
	}
	where, err := binder.Where(table(), e)
	if err != api.OK || sharesMemory(where, e) {
		t.Error(where, err)
	}
	if !reflect.DeepEqual(q.Order[:4], []api.Order{{}, {}, {}, {}}) || !reflect.DeepEqual(e.Args[:4], make([]api.Expr, 4)) {
		t.Error("an argument was changed")
	}
}

// TestDepthsOfExpressions has expressions that are too deep, which are not printable.
func TestDepthsOfExpressions(t *testing.T) {
	e := column(2)
	deep := name("c")
	for range 60000 {
		deep = operation(api.OpNot, deep)
	}
	for range 23 {
		e = operation(api.OpNot, e)
	}
	within := name("c")
	for range 23 {
		within = operation(api.OpNot, within)
	}
	if got, err := binder.Where(table(), within); !expr.Same(got, e) || err != api.OK {
		t.Error(err)
	}
	if got, err := binder.Where(table(), deep); !expr.Same(got, api.Expr{}) || err != api.ErrDepth {
		t.Error(err)
	}
}

// TestDeepQueries has a query that is not printable, because it is too deep.
func TestDeepQueries(t *testing.T) {
	q := parsed(t, "SELECT a FROM u")
	for range 20000 {
		q = api.Query{Op: api.QueryExcept, Args: []api.Query{q, parsed(t, "SELECT a FROM u")}, Limit: -1}
	}
	if got, err := binder.Query(sample(), 30, api.ModeCurrent, q); !reflect.DeepEqual(got, api.Bound{}) || err != api.ErrDepth {
		t.Error(err)
	}
}
