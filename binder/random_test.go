package binder_test

import (
	"reflect"
	"slices"
	"strings"
	"testing"

	"bitemporal/api"
	"bitemporal/binder"
	"bitemporal/catalog"
	"bitemporal/expr"
	"bitemporal/printer"
)

// fields calls f with each number, string, flag and list within v.
func fields(v reflect.Value, f func(reflect.Value)) {
	switch v.Kind() {
	case reflect.Struct:
		for i := range v.NumField() {
			fields(v.Field(i), f)
		}
	case reflect.Slice:
		f(v)
		for i := range v.Len() {
			fields(v.Index(i), f)
		}
	default:
		f(v)
	}
}

// plain turns empty lists of v into nil ones.
func plain[T any](v T) T {
	fields(reflect.ValueOf(&v).Elem(), func(v reflect.Value) {
		if v.Kind() == reflect.Slice && v.Len() == 0 && v.CanSet() {
			v.SetZero()
		}
	})
	return v
}

// sharesMemory reports whether a list of a shares memory, with its spare capacity, with another one of a or one of b.
func sharesMemory(a any, b ...any) bool {
	type area struct {
		from, to uintptr
		mine     bool
	}
	var l []area
	add := func(v any, mine bool) {
		fields(reflect.ValueOf(v), func(v reflect.Value) {
			if v.Kind() == reflect.Slice && v.Cap() > 0 {
				l = append(l, area{v.Pointer(), v.Pointer() + uintptr(v.Cap())*v.Type().Elem().Size(), mine})
			}
		})
	}
	add(a, true)
	for _, v := range b {
		add(v, false)
	}
	slices.SortFunc(l, func(a, b area) int {
		if a.from < b.from {
			return -1
		}
		return 1
	})
	for i := 1; i < len(l); i++ {
		if l[i].from < l[i-1].to && (l[i].mine || l[i-1].mine) {
			return true
		}
	}
	return false
}

func TestSample(t *testing.T) {
	if err := catalog.Check(sample()); err != api.OK {
		t.Error(err)
	}
}

// TestRandomQueries compares the results for random queries with the model.
func TestRandomQueries(t *testing.T) {
	m, seen := newMaker(1), map[api.Errno]int{}
	ops := map[int]int{}
	for i := range 20000 {
		m.mode = i % 4
		m.odd = []int{15, 60, 200}[m.next(3)]
		q := m.query()
		if _, err := printer.Query(q); err != api.OK {
			t.Fatalf("%+v is not printable: %d", q, err)
		}
		got, err := binder.Query(m.c, m.at, m.mode, q)
		want, wantErr := bound(m.c, m.at, m.mode, q)
		seen[err]++
		if err != wantErr || !reflect.DeepEqual(plain(got), plain(want)) {
			s, _ := printer.Query(q)
			t.Fatalf("mode %d, %s: %+v, %d; want %+v, %d", m.mode, s, got, err, want, wantErr)
		}
		if sharesMemory(got, q, m.c) {
			t.Fatalf("%+v shares memory", got)
		}
		if err == api.OK {
			checkPlan(t, inputs(m, got.Sources), got)
			count(got.Plan, ops)
		}
	}
	for _, err := range []api.Errno{api.OK, api.ErrKind, api.ErrNotFound, api.ErrAmbiguous, api.ErrExists, api.ErrMode, api.ErrInvalid, api.ErrColumns} {
		if seen[err] < 50 {
			t.Errorf("only %d queries with the error %d", seen[err], err)
		}
	}
	for op := api.PlanScan; op <= api.PlanGroup; op++ {
		if ops[op] < 300 && op != api.PlanValues {
			t.Errorf("only %d nodes with the operator %d", ops[op], op)
		}
	}
	if seen[api.OK] < 5000 {
		t.Error("too few queries without an error:", seen)
	}
	if !reflect.DeepEqual(m.c, sample()) {
		t.Error("the catalog was changed")
	}
}

func count(p api.Plan, ops map[int]int) {
	ops[p.Op]++
	for _, i := range p.Inputs {
		count(i, ops)
	}
}

// inputs returns the kinds of the columns of sources.
func inputs(m *maker, l []api.Source) [][]int {
	var all [][]int
	for _, s := range l {
		var kinds []int
		for _, c := range m.sees(api.Select{From: s}) {
			kinds = append(kinds, c.kind)
		}
		all = append(all, kinds)
	}
	return all
}

// checkPlan checks that a plan over inputs has the columns of the result, and scans each source once, in order.
func checkPlan(t *testing.T, in [][]int, b api.Bound) {
	t.Helper()
	scans := 0
	var kindsOf func(p api.Plan) []int
	kindsOf = func(p api.Plan) []int {
		var l [][]int
		for _, i := range p.Inputs {
			l = append(l, kindsOf(i))
		}
		all := slices.Concat(l...)
		switch p.Op {
		case api.PlanScan:
			if p.Int != scans {
				t.Fatalf("the scan %d comes after %d others", p.Int, scans)
			}
			scans++
			return in[p.Int]
		case api.PlanFilter, api.PlanJoin, api.PlanLeft:
			if kind, err := expr.Check(p.Pred, all); err != api.OK || kind == api.KindInt || kind == api.KindText {
				t.Fatalf("%+v over %v: %d, %d", p.Pred, all, kind, err)
			}
			return all
		case api.PlanProject:
			return kindsOfExprs(t, p.Exprs, all)
		case api.PlanGroup:
			return kindsOfGroup(t, p, all)
		case api.PlanUnion, api.PlanExcept, api.PlanIntersect:
			if !slices.Equal(l[0], l[1]) {
				t.Fatalf("a combination of %v and %v", l[0], l[1])
			}
		}
		return l[0]
	}
	kinds := kindsOf(b.Plan)
	if scans != len(b.Sources) {
		t.Fatalf("%d scans of %d sources", scans, len(b.Sources))
	}
	if !slices.EqualFunc(kinds, b.Columns, func(k int, c api.Column) bool { return k == c.Kind }) {
		t.Fatalf("%+v has the kinds %v, but the columns %v", b.Plan, kinds, b.Columns)
	}
}

func kindsOfExprs(t *testing.T, l []api.Expr, kinds []int) []int {
	t.Helper()
	var result []int
	for _, e := range l {
		kind, err := expr.Check(e, kinds)
		if err != api.OK || kind == api.KindNull {
			t.Fatalf("%+v over %v: %d, %d", e, kinds, kind, err)
		}
		result = append(result, kind)
	}
	return result
}

func kindsOfGroup(t *testing.T, p api.Plan, kinds []int) []int {
	t.Helper()
	var result []int
	for _, k := range p.Keys {
		result = append(result, kinds[k])
	}
	for _, a := range p.Aggs {
		if a.Op == api.AggSum && kinds[a.Arg] != api.KindInt || a.Arg < 0 && a.Op != api.AggCount {
			t.Fatalf("%+v over %v", a, kinds)
		}
		kind := api.KindInt
		if a.Op == api.AggMin || a.Op == api.AggMax {
			kind = kinds[a.Arg]
		}
		result = append(result, kind)
	}
	return result
}

// TestNames calls a source of a select otherwise, and its uses, and compares the plans.
func TestNames(t *testing.T) {
	m := newMaker(2)
	renamed := 0
	for i := range 20000 {
		m.mode = i % 4
		q := m.query()
		want, err := binder.Query(m.c, m.at, m.mode, q)
		if err != api.OK {
			continue
		}
		s := &q.Select
		if q.Op != api.QuerySelect {
			s = &q.Args[m.next(2)].Select
		}
		if s.From.Table == "" {
			continue
		}
		sources := []*api.Source{&s.From}
		for i := range s.Joins {
			sources = append(sources, &s.Joins[i].Source)
		}
		source := sources[m.next(len(sources))]
		old := source.Alias
		if old == "" {
			old = source.Table
		}
		source.Alias = "renamed"
		rename(reflect.ValueOf(s).Elem(), old)
		got, err := binder.Query(m.c, m.at, m.mode, q)
		if err != api.OK || !reflect.DeepEqual(got.Plan, want.Plan) || !reflect.DeepEqual(got.Columns, want.Columns) {
			t.Fatalf("with the source %s renamed: %+v, %d; want %+v", old, got, err, want)
		}
		renamed++
	}
	if renamed < 3000 {
		t.Error("too few sources:", renamed)
	}
}

// rename replaces the name of a source in all expressions within v.
func rename(v reflect.Value, old string) {
	switch v.Kind() {
	case reflect.Slice:
		for i := range v.Len() {
			rename(v.Index(i), old)
		}
		return
	case reflect.Struct:
	default:
		return
	}
	e, ok := v.Addr().Interface().(*api.Expr)
	switch {
	case ok && e.Op == api.OpName && strings.HasPrefix(e.Name, old+"."):
		e.Name = "renamed" + e.Name[len(old):]
	case ok && e.Op == api.OpPeriod && e.Name == old:
		e.Name = "renamed"
	case ok && e.Op == api.OpRelate:
		for i, a := range e.Args {
			if a.Name == old {
				e.Args[i].Name = "renamed"
			}
		}
	default:
		for i := range v.NumField() {
			rename(v.Field(i), old)
		}
	}
}

// damage changes a field at random.
func (m *maker) damage(v reflect.Value) {
	var l []reflect.Value
	fields(v, func(f reflect.Value) { l = append(l, f) })
	switch f := l[m.next(len(l))]; f.Kind() {
	case reflect.Int:
		f.SetInt([]int64{-1 << 63, -1, 0, 1, 2, 3, f.Int() + 1, f.Int() - 1, api.OpPeriod, api.OpName, api.OpColumn, api.Forever, 1<<63 - 1}[m.next(13)])
	case reflect.String:
		f.SetString([]string{"", "a", "t", ".", "a.", ".a", "t.", "t.a.b", "A"}[m.next(9)])
	case reflect.Bool:
		f.SetBool(!f.Bool())
	case reflect.Slice:
		n := f.Len()
		switch {
		case n == 0 || m.chance(3):
			f.Set(reflect.Append(f, reflect.Zero(f.Type().Elem())))
		case m.chance(2):
			f.Set(f.Slice(0, n-1))
		default:
			f.SetZero()
		}
	}
}

// TestArgumentsThatAreNotValid calls the functions with arguments for which little is promised: that they return, and
// nothing together with an error.
func TestArgumentsThatAreNotValid(t *testing.T) {
	m := newMaker(3)
	for i := range 10000 {
		m.mode = i % 4
		q, c, d := m.query(), sample(), sample()[m.next(4)].Create
		l := []api.Expr{m.expression(nil, m.kind()), m.expression(m.sees(api.Select{From: api.Source{Table: "t", Under: 5}}), api.KindBool)}
		sets := []api.Set{{Name: "a", Expr: l[1]}, {Name: "b", Expr: l[0]}}
		for range m.next(3) {
			m.damage([]reflect.Value{reflect.ValueOf(&q).Elem(), reflect.ValueOf(&c).Elem(), reflect.ValueOf(&d).Elem(), reflect.ValueOf(&l).Elem(), reflect.ValueOf(&sets).Elem()}[m.next(5)])
		}
		b, err := binder.Query(c, m.next(40)-5, m.next(6)-1, q)
		checkNothing(t, b, err)
		for _, x := range l {
			e, err := binder.Where(d, x)
			checkNothing(t, e, err)
		}
		rows, err := binder.Rows(d, [][]api.Expr{l, nil, l})
		checkNothing(t, rows, err)
		exprs, err := binder.Sets(d, sets)
		checkNothing(t, exprs, err)
		table, err := binder.Create(d, l)
		checkNothing(t, table, err)
	}
}

func checkNothing[T any](t *testing.T, v T, err api.Errno) {
	t.Helper()
	if err != api.OK && !reflect.ValueOf(plain(v)).IsZero() {
		t.Fatalf("%+v with the error %d", v, err)
	}
}
