package syntax_test

import (
	"reflect"
	"slices"
	"strings"
	"testing"

	"bitemporal/api"
	"bitemporal/lexer"
	"bitemporal/syntax"
)

// spaced writes tokens with random blanks between them, which are left out where the tokens do not join, and keywords in
// random case.
func (w *writer) spaced(l []string) string {
	var b strings.Builder
	for i, t := range l {
		if lexer.Word(t) && w.chance(2) {
			t = strings.ToLower(t)
		}
		if i == 0 || !w.chance(3) || joins(l[i-1], t) {
			b.WriteString([]string{" ", "\n", "  ", "\t", " \n\t"}[w.next(5)])
		}
		b.WriteString(t)
	}
	return b.String() + []string{"", "", " ", "\n"}[w.next(4)]
}

// joins reports whether two tokens without a blank between them are not the same tokens.
func joins(a, b string) bool {
	l, _, err := lexer.Tokens(a + b)
	return err != api.OK || len(l) != 2 || l[1].At != len(a)
}

// depth returns the greatest depth of the expressions and queries within v.
func depth(v reflect.Value) int {
	deepest := 0
	switch x := v.Interface().(type) {
	case api.Expr:
		return exprDepth(x)
	case api.Query:
		deepest = queryDepth(x)
	}
	switch v.Kind() {
	case reflect.Struct:
		for i := range v.NumField() {
			deepest = max(deepest, depth(v.Field(i)))
		}
	case reflect.Slice:
		for i := range v.Len() {
			deepest = max(deepest, depth(v.Index(i)))
		}
	}
	return deepest
}

func exprDepth(e api.Expr) int {
	deepest := 0
	for _, a := range e.Args {
		deepest = max(deepest, exprDepth(a))
	}
	return deepest + 1
}

func queryDepth(q api.Query) int {
	deepest := 0
	for _, a := range q.Args {
		deepest = max(deepest, queryDepth(a))
	}
	return deepest + 1
}

// lists calls f with each list within v.
func lists(v reflect.Value, f func(reflect.Value)) {
	switch v.Kind() {
	case reflect.Struct:
		for i := range v.NumField() {
			lists(v.Field(i), f)
		}
	case reflect.Slice:
		f(v)
		for i := range v.Len() {
			lists(v.Index(i), f)
		}
	}
}

// sharesMemory reports whether two lists of v share memory, with their spare capacity.
func sharesMemory(v any) bool {
	type area struct{ from, to uintptr }
	var l []area
	lists(reflect.ValueOf(v), func(v reflect.Value) {
		if v.Cap() > 0 {
			l = append(l, area{v.Pointer(), v.Pointer() + uintptr(v.Cap())*v.Type().Elem().Size()})
		}
	})
	slices.SortFunc(l, func(a, b area) int {
		if a.from < b.from {
			return -1
		}
		return 1
	})
	for i := 1; i < len(l); i++ {
		if l[i].from < l[i-1].to {
			return true
		}
	}
	return false
}

// plain turns empty lists of v into nil ones.
func plain[T any](v T) T {
	lists(reflect.ValueOf(&v).Elem(), func(v reflect.Value) {
		if v.Len() == 0 && v.CanSet() {
			v.SetZero()
		}
	})
	return v
}

// judgeYield compares what a text yields, and its error, with what it should yield, unless that is too deep.
func judgeYield[T any](t *testing.T, s string, got T, at int, err api.Errno, want T, seen map[api.Errno]int) {
	t.Helper()
	wantErr := api.OK
	if depth(reflect.ValueOf(want)) > api.MaxDepth {
		var none T
		want, wantErr = none, api.ErrDepth
	}
	if !reflect.DeepEqual(plain(got), want) || at != 0 || err != wantErr {
		t.Fatalf("%q yields %+v, %d, %d; want %+v, %d", s, got, at, err, want, wantErr)
	}
	if sharesMemory(got) {
		t.Fatalf("lists of what %q yields share memory", s)
	}
	seen[err]++
}

func TestRandomExpressions(t *testing.T) {
	w, seen := newWriter(1), map[api.Errno]int{}
	for range 30000 {
		l, want := w.expr()
		for _, s := range []string{w.spaced(l), strings.Join(l, " ")} {
			e, at, err := syntax.Expression(s)
			judgeYield(t, s, e, at, err, want, seen)
		}
	}
	if seen[api.OK] < 10000 || seen[api.ErrDepth] < 20 {
		t.Error("too few expressions of a kind:", seen)
	}
}

func TestRandomStatements(t *testing.T) {
	w, seen := newWriter(2), map[api.Errno]int{}
	kinds := map[int]int{}
	for range 20000 {
		l, want := w.statement()
		for _, s := range []string{w.spaced(l), strings.Join(l, "\n")} {
			v, at, err := syntax.Statement(s)
			judgeYield(t, s, v, at, err, want, seen)
		}
		kinds[want.Kind]++
	}
	for kind := api.StmtQuery; kind <= api.StmtPrune; kind++ {
		if kinds[kind] < 200 {
			t.Errorf("only %d statements of the kind %d", kinds[kind], kind)
		}
	}
	if seen[api.OK] < 10000 || seen[api.ErrDepth] < 20 {
		t.Error("too few statements of a kind:", seen)
	}
}

// script returns a script of up to four statements.
func (w *writer) script() ([]string, []api.Statement) {
	var l []string
	var all []api.Statement
	for range w.next(5) {
		m, s := w.statement()
		if len(all) > 0 {
			l = phrase(l, ";")
		}
		l = phrase(l, m)
		all = append(all, s)
	}
	if len(all) > 0 && w.chance(2) {
		l = phrase(l, ";")
	}
	return l, all
}

func TestRandomScripts(t *testing.T) {
	w, seen := newWriter(3), map[api.Errno]int{}
	for range 5000 {
		l, want := w.script()
		s := w.spaced(l)
		got, at, err := syntax.Script(s)
		judgeYield(t, s, got, at, err, want, seen)
		checkParts(t, s, want)
	}
	if seen[api.OK] < 2000 || seen[api.ErrDepth] < 10 {
		t.Error("too few scripts of a kind:", seen)
	}
}

// checkParts checks that the parts of a script yield its statements.
func checkParts(t *testing.T, s string, want []api.Statement) {
	t.Helper()
	parts, err := syntax.Cut(s)
	if err != api.OK || len(parts) != len(want) {
		t.Fatalf("Cut(%q) = %q, %d; want %d parts", s, parts, err, len(want))
	}
	for i, part := range parts {
		v, at, err := syntax.Statement(part)
		judgeYield(t, part, v, at, err, want[i], map[api.Errno]int{})
	}
}

// vocabulary are tokens of all kinds, and some that are none.
var vocabulary = append(lexer.Words(), "a", "b", "x_1", "t", "0", "1", "5", "49", "50", "1099511627775", "1099511627776", "1099511627777", "1125899906842624", "''", "'it''s'", "'('", "';'", "<>", "<=", ">=", "||", "(", "(", ")", ")", ",", ",", ".", ";", "*", "=", "<", ">", "+", "-", "-", "/", "%")

// changed changes some tokens of a list.
func (w *writer) changed(l []string) []string {
	l = slices.Clone(l)
	for range 1 + w.next(2) {
		at := w.next(len(l) + 1)
		word := vocabulary[w.next(len(vocabulary))]
		switch w.next(8) {
		case 0:
			l = slices.Insert(l, at, word)
		case 6:
			l = slices.Insert(l, 0, phrase([]string{"NONSEQUENCED", "SEQUENCED", "VALID AS OF 7", "NOT", "( ("}[w.next(5)])...)
		case 1:
			l = l[:at]
		case 2, 3:
			if at < len(l) {
				l = slices.Delete(l, at, at+1)
			}
		case 4:
			if at < len(l) {
				l[at] = word
			}
		case 5:
			if at+1 < len(l) {
				l[at], l[at+1] = l[at+1], l[at]
			}
		default:
			w.exchange(l)
		}
	}
	return l
}

// exchange replaces a name or a number by another one.
func (w *writer) exchange(l []string) {
	numbers := []string{"0", "1", "50", "1099511627775", "1099511627776", "1099511627777"}
	names := []string{"a", "b", "c", "zz"}
	var places []int
	for i, t := range l {
		if '0' <= t[0] && t[0] <= '9' || lexer.Name(t) {
			places = append(places, i)
		}
	}
	if len(places) == 0 {
		return
	}
	at := places[w.next(len(places))]
	if lexer.Name(l[at]) {
		l[at] = names[w.next(len(names))]
		return
	}
	l[at] = numbers[w.next(len(numbers))]
}

// judge compares the error of a text with the model's one, which does not know depths, and counts it.
func judge(t *testing.T, r *rules, start, s string, at int, err api.Errno, seen map[api.Errno]int) {
	t.Helper()
	wantAt, want := r.judged(start, s)
	if want == api.OK && err == api.ErrDepth && len(s) > api.MaxDepth {
		want = err
	}
	if at != wantAt || err != want {
		t.Fatalf("%s %q: %d, %d; want %d, %d", start, s, at, err, wantAt, want)
	}
	seen[want]++
}

func TestChangedExpressions(t *testing.T) {
	w, r, seen := newWriter(4), newRules(), map[api.Errno]int{}
	for range 8000 {
		l, _ := w.expr()
		s := w.spaced(w.changed(l))
		e, at, err := syntax.Expression(s)
		judge(t, r, "expr", s, at, err, seen)
		if err != api.OK && !reflect.DeepEqual(e, api.Expr{}) {
			t.Fatalf("Expression(%q) returns %v with an error", s, e)
		}
	}
	if seen[api.OK] < 500 || seen[api.ErrSyntax] < 500 || seen[api.ErrTruncated] < 500 {
		t.Error("too few errors of a kind:", seen)
	}
}

func TestChangedStatements(t *testing.T) {
	w, r, seen := newWriter(5), newRules(), map[api.Errno]int{}
	for range 20000 {
		l, _ := w.statement()
		s := w.spaced(w.changed(l))
		v, at, err := syntax.Statement(s)
		judge(t, r, "statement", s, at, err, seen)
		if err != api.OK && !reflect.DeepEqual(v, api.Statement{}) {
			t.Fatalf("Statement(%q) returns %v with an error", s, v)
		}
	}
	for _, err := range []api.Errno{api.OK, api.ErrSyntax, api.ErrTruncated, api.ErrRange, api.ErrNotFound, api.ErrMode} {
		if seen[err] < 20 {
			t.Errorf("only %d statements with the error %d", seen[err], err)
		}
	}
}

func TestChangedScripts(t *testing.T) {
	w, r, seen := newWriter(6), newRules(), map[api.Errno]int{}
	for range 4000 {
		l, _ := w.script()
		s := w.spaced(w.changed(l))
		v, at, err := syntax.Script(s)
		judge(t, r, "script", s, at, err, seen)
		if err == api.OK {
			checkParts(t, s, plain(v))
		} else if len(v) > 0 {
			t.Fatalf("Script(%q) returns %v with an error", s, v)
		}
	}
}

// TestRandomTokens parses tokens without any order.
func TestRandomTokens(t *testing.T) {
	w, r, seen := newWriter(7), newRules(), map[api.Errno]int{}
	for range 20000 {
		var l []string
		for range w.next(6) {
			l = append(l, vocabulary[w.next(len(vocabulary))])
		}
		s := w.spaced(l)
		_, at, err := syntax.Expression(s)
		judge(t, r, "expr", s, at, err, seen)
		_, at, err = syntax.Statement(s)
		judge(t, r, "statement", s, at, err, seen)
		_, at, err = syntax.Script(s)
		judge(t, r, "script", s, at, err, seen)
	}
}
