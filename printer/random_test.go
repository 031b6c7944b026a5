package printer_test

import (
	"reflect"
	"slices"
	"strings"
	"testing"

	"bitemporal/api"
	"bitemporal/lexer"
	"bitemporal/printer"
	"bitemporal/syntax"
)

// plain turns empty lists of v into nil ones.
func plain[T any](v T) T {
	fields(reflect.ValueOf(&v).Elem(), func(v reflect.Value) {
		if v.Kind() == reflect.Slice && v.Len() == 0 && v.CanSet() {
			v.SetZero()
		}
	})
	return v
}

// depth returns the greatest depth of the expressions and queries within v.
func depth(v reflect.Value) int {
	deepest := 0
	switch v.Kind() {
	case reflect.Struct:
		for i := range v.NumField() {
			deepest = max(deepest, depth(v.Field(i)))
		}
	case reflect.Slice:
		for i := range v.Len() {
			deepest = max(deepest, depth(v.Index(i)))
		}
	}
	switch v.Interface().(type) {
	case api.Expr:
		return deepest + 1
	case api.Query:
		// Expressions in a query do not add to its depth.
		own := 0
		for i := range v.FieldByName("Args").Len() {
			own = max(own, queryDepth(v.FieldByName("Args").Index(i).Interface().(api.Query)))
		}
		return max(deepest, own+1)
	}
	return deepest
}

func queryDepth(q api.Query) int {
	deepest := 0
	for _, a := range q.Args {
		deepest = max(deepest, queryDepth(a))
	}
	return deepest + 1
}

// judge compares what is printed with the model: what the parser makes of the model's text is what was to be printed, or
// it is not printable.
func judge[T any](t *testing.T, v T, tokens []string, got string, err api.Errno, parse func(string) (T, int, api.Errno), seen map[api.Errno]int) {
	t.Helper()
	want, wantErr := text(tokens), api.OK
	parsed, _, parseErr := parse(want)
	switch {
	case depth(reflect.ValueOf(v)) > api.MaxDepth:
		want, wantErr = "", api.ErrDepth
	case parseErr != api.OK || !reflect.DeepEqual(plain(parsed), plain(v)):
		want, wantErr = "", api.ErrInvalid
	}
	if got != want || err != wantErr {
		t.Fatalf("%+v is printed as %q, %d; want %q, %d", v, got, err, want, wantErr)
	}
	seen[err]++
}

func TestRandomExpressions(t *testing.T) {
	m, seen := newMaker(1), map[api.Errno]int{}
	for range 25000 {
		m.left = m.next(40)
		e := m.expr()
		if m.chance(3) {
			m.damage(reflect.ValueOf(&e).Elem())
		}
		got, err := printer.Expression(e)
		judge(t, e, canonical().expr(e), got, err, syntax.Expression, seen)
	}
	if seen[api.OK] < 10000 || seen[api.ErrInvalid] < 5000 {
		t.Error("too few expressions of a kind:", seen)
	}
}

func TestRandomQueries(t *testing.T) {
	m, seen := newMaker(2), map[api.Errno]int{}
	parse := func(s string) (api.Query, int, api.Errno) {
		v, at, err := syntax.Statement(s)
		return v.Query, at, err
	}
	for range 20000 {
		m.left = m.next(30)
		q := m.query()
		if m.chance(2) {
			m.damage(reflect.ValueOf(&q).Elem())
		}
		got, err := printer.Query(q)
		judge(t, q, canonical().query(q), got, err, parse, seen)
	}
	if seen[api.OK] < 5000 || seen[api.ErrInvalid] < 3000 {
		t.Error("too few queries of a kind:", seen)
	}
}

func TestRandomStatements(t *testing.T) {
	m, seen := newMaker(3), map[api.Errno]int{}
	kinds := map[int]int{}
	for range 50000 {
		s := m.statement()
		for range m.next(3) {
			m.damage(reflect.ValueOf(&s).Elem())
		}
		got, err := printer.Statement(s)
		judge(t, s, canonical().statement(s), got, err, syntax.Statement, seen)
		if err == api.OK {
			kinds[s.Kind]++
		}
	}
	if seen[api.ErrInvalid] < 10000 {
		t.Error("too few statements of a kind:", seen)
	}
	for kind := api.StmtQuery; kind <= api.StmtPrune; kind++ {
		if kinds[kind] < 500 {
			t.Errorf("only %d statements of the kind %d", kinds[kind], kind)
		}
	}
}

// loose writes tokens with random blanks, and keywords in random case.
func (m *maker) loose(tokens []string) string {
	var b strings.Builder
	for i, t := range tokens {
		t = strings.TrimPrefix(t, "unary ")
		if i > 0 {
			b.WriteString([]string{" ", "\n", "  ", "\t"}[m.next(4)])
		}
		if lexer.Word(t) && m.chance(2) {
			t = strings.ToLower(t)
		}
		b.WriteString(t)
	}
	return b.String()
}

// TestCanonicalForm prints what texts in another form yield, and prints again what that yields.
func TestCanonicalForm(t *testing.T) {
	m := newMaker(4)
	other := &model{func() bool { return m.chance(4) }}
	for range 20000 {
		s := m.statement()
		in := m.loose(other.statement(s))
		parsed, _, err := syntax.Statement(in)
		if err == api.ErrDepth {
			continue
		}
		got, printErr := printer.Statement(parsed)
		if want := text(canonical().statement(s)); err != api.OK || printErr != api.OK || got != want {
			t.Fatalf("%q (%d) is printed as %q, %d; want %q", in, err, got, printErr, want)
		}
		again, _, err := syntax.Statement(got)
		if !printer.Same(again, parsed) || err != api.OK {
			t.Fatalf("%q yields something else", got)
		}
		if s, err := printer.Statement(again); s != got || err != api.OK {
			t.Fatalf("%q is printed as %q", got, s)
		}
	}
}

// TestSmallExpressions prints all expressions of two operators.
func TestSmallExpressions(t *testing.T) {
	seen := map[api.Errno]int{}
	leaves := []api.Expr{name("a"), constant(integer(5)), constant(integer(-5)), constant(api.Value{Kind: api.KindText, Text: "-"})}
	inner := slices.Clone(leaves)
	for _, o := range operators {
		args := leaves
		if o.least == 1 {
			for _, l := range leaves {
				inner = append(inner, operation(o.op, l))
			}
			continue
		}
		inner = append(inner, operation(o.op, args[:o.least]...), operation(o.op, args[4-o.least:]...))
	}
	inner = append(inner, api.Expr{Op: api.OpRelate, Int: api.Meets, Args: []api.Expr{name("t"), name("u")}}, api.Expr{Op: api.OpPeriod, Name: "t"})
	for _, o := range operators {
		for _, x := range inner {
			for at := range o.most {
				args := slices.Repeat([]api.Expr{leaves[0]}, max(o.least, at+1))
				args[at] = x
				e := operation(o.op, args...)
				got, err := printer.Expression(e)
				judge(t, e, canonical().expr(e), got, err, syntax.Expression, seen)
			}
		}
	}
	if seen[api.OK] < 1000 || len(seen) != 1 {
		t.Error(seen)
	}
}
