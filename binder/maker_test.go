package binder_test

import (
	"strconv"

	"bitemporal/api"
)

// sample is a catalog: t (a INT, b TEXT NULL, c BOOL), which has also d INT NULL from 15 on and e instead of b from 25
// on; u (a INT, c INT NULL) from 9 on; wide with the twelve columns w0, w1 .. of integers from 10 on; and one (x INT).
func sample() []api.Entry {
	t := api.Table{Name: "t", Columns: []api.Column{{Name: "a", Kind: api.KindInt}, {Name: "b", Kind: api.KindText, Nullable: true}, {Name: "c", Kind: api.KindBool}}, Key: []int{0}}
	u := api.Table{Name: "u", Columns: []api.Column{{Name: "a", Kind: api.KindInt}, {Name: "c", Kind: api.KindInt, Nullable: true}}, Key: []int{0}}
	wide := api.Table{Name: "wide", Key: []int{0}}
	for i := range 12 {
		wide.Columns = append(wide.Columns, api.Column{Name: "w" + strconv.Itoa(i), Kind: api.KindInt})
	}
	one := api.Table{Name: "one", Columns: []api.Column{{Name: "x", Kind: api.KindInt}}, Key: []int{0}}
	return []api.Entry{
		{Time: 5, Table: "t", Create: t},
		{Time: 9, Table: "u", Create: u},
		{Time: 10, Table: "wide", Create: wide},
		{Time: 10, Table: "one", Create: one},
		{Time: 15, Table: "t", Change: api.Change{Kind: api.ChangeAdd, Column: api.Column{Name: "d", Kind: api.KindInt, Nullable: true}}},
		{Time: 25, Table: "t", Change: api.Change{Kind: api.ChangeRename, Name: "b", To: "e"}},
	}
}

// A maker makes random queries, which are printable.
type maker struct {
	next func(n int) int
	c    []api.Entry
	at   int
	mode int
	odd  int // once in so many times, something is chosen without regard to what it is for
	left int // about how many operands the expression may still get
}

// random returns numbers below n that depend only on the seed.
func random(seed uint64) func(n int) int {
	return func(n int) int {
		seed = seed*6364136223846793005 + 1442695040888963407
		return int(seed >> 33 % uint64(n))
	}
}

// chance is true once in n times.
func (m *maker) chance(n int) bool { return m.next(n) == 0 }

// some returns up to most elements, but at least so many.
func some[T any](m *maker, least, most int, element func() T) []T {
	var l []T
	for range least + m.next(most-least+1) {
		l = append(l, element())
	}
	return l
}

func (m *maker) kind() int { return api.KindInt + m.next(3) }

func integer(n int) api.Value { return api.Value{Kind: api.KindInt, Int: n} }

func constant(v api.Value) api.Expr { return api.Expr{Op: api.OpConst, Value: v} }

func name(s string) api.Expr { return api.Expr{Op: api.OpName, Name: s} }

func operation(op int, args ...api.Expr) api.Expr { return api.Expr{Op: op, Args: args} }

func (m *maker) constant(kind int) api.Expr {
	if m.chance(6) {
		return constant(api.Value{})
	}
	switch kind {
	case api.KindInt:
		return constant(integer(m.next(7) - 3))
	case api.KindText:
		return constant(api.Value{Kind: kind, Text: []string{"", "x", "it's"}[m.next(3)]})
	}
	return constant(api.Value{Kind: api.KindBool, Int: m.next(2)})
}

// reference returns a name that stands for a column of a kind, if there is one.
func (m *maker) reference(l []seen, kind int) (api.Expr, bool) {
	if m.chance(m.odd) {
		return name([]string{"a", "b", "c", "zz", "t.a", "x.c", "u.zz", "zz.a"}[m.next(8)]), true
	}
	var names []string
	for _, c := range l {
		if c.kind == kind && c.name != "" {
			names = append(names, c.source+"."+c.name)
			if _, err := tried(func() api.Expr { return named(l, c.name) }); err == api.OK {
				names = append(names, c.name)
			}
		}
	}
	if len(names) == 0 {
		return api.Expr{}, false
	}
	return name(names[m.next(len(names))]), true
}

// source returns what a source is called.
func (m *maker) source(l []seen) string {
	if len(l) == 0 || m.chance(m.odd) {
		return []string{"t", "zz"}[m.next(2)]
	}
	return l[m.next(len(l))].source
}

// expr returns an expression of a kind over columns.
func (m *maker) expr(l []seen, kind int) api.Expr {
	if m.chance(m.odd) {
		kind = m.kind()
	}
	m.left--
	if m.left < 0 || m.chance(4) {
		return m.leaf(l, kind)
	}
	some := func(least, most, kind int) []api.Expr {
		return some(m, least, most, func() api.Expr { return m.expr(l, kind) })
	}
	switch m.next(8) {
	case 0:
		return operation(api.OpIf, m.expr(l, api.KindBool), m.expr(l, kind), m.expr(l, kind))
	case 1:
		return operation(api.OpCoalesce, some(1, 3, kind)...)
	}
	switch kind {
	case api.KindInt:
		switch m.next(5) {
		case 0:
			return operation(api.OpNeg, m.expr(l, kind))
		case 1:
			return operation(api.OpLength, m.expr(l, api.KindText))
		}
		return operation(api.OpAdd+m.next(5), some(2, 2, kind)...)
	case api.KindText:
		return operation(api.OpConcat, some(2, 2, kind)...)
	}
	switch m.next(5) {
	case 0:
		return operation(api.OpNot, m.expr(l, kind))
	case 1:
		return operation(api.OpIsNull, m.expr(l, m.kind()))
	case 2:
		return operation(api.OpAnd+m.next(2), some(2, 3, kind)...)
	}
	return operation(api.OpEq+m.next(6), some(2, 2, m.kind())...)
}

func (m *maker) leaf(l []seen, kind int) api.Expr {
	periods := m.mode == api.ModeNonsequenced || m.chance(2*m.odd)
	if periods && kind == api.KindInt && m.chance(3) {
		return api.Expr{Op: api.OpPeriod, Int: m.next(5), Name: m.source(l)}
	}
	if periods && kind == api.KindBool && m.chance(3) {
		return api.Expr{Op: api.OpRelate, Int: m.next(13), Args: []api.Expr{name(m.source(l)), name(m.source(l))}}
	}
	if e, ok := m.reference(l, kind); ok && !m.chance(3) {
		return e
	}
	return m.constant(kind)
}

func (m *maker) from() api.Source {
	s := api.Source{Table: []string{"t", "t", "t", "u", "u", "one", "wide"}[m.next(7)], Under: -1}
	if m.chance(m.odd) {
		s.Table = "zz"
	}
	if m.chance(2) {
		s.Alias = []string{"x", "y", "z", "t", "u"}[m.next(5)]
	}
	early := func() int {
		if m.chance(m.odd) {
			return m.next(10)
		}
		return 10 + m.next(20)
	}
	switch m.next(8) {
	case 0:
		s.Clause = api.Clause{Kind: api.ClauseAsOf, From: early()}
	case 1:
		s.Clause = api.Clause{Kind: api.ClauseFromTo, From: 3, To: 8}
	case 2:
		s.Clause = api.Clause{Kind: api.ClauseBetween, From: 3, To: 8}
	case 3:
		s.Clause = api.Clause{Kind: api.ClauseAll}
	}
	if m.chance(5) {
		s.Under = early()
	}
	return s
}

// sees returns the columns of the sources of a select.
func (m *maker) sees(s api.Select) []seen {
	l, _ := tried(func() []seen {
		for i := range s.Joins {
			s.Joins[i].On = constant(api.Value{})
		}
		x := &model{c: m.c, at: m.at, mode: m.mode}
		_, l := x.from(s)
		return l
	})
	return l
}

func (m *maker) expression(l []seen, kind int) api.Expr {
	m.left = m.next(8)
	return m.expr(l, kind)
}

// selection returns a select whose result has columns of these kinds.
func (m *maker) selection(kinds []int) api.Select {
	s := api.Select{Distinct: m.chance(4), From: m.from()}
	for range max(0, m.next(5)-2) {
		s.Joins = append(s.Joins, api.Join{Source: m.from(), Left: m.chance(2)})
		names := map[string]bool{}
		for _, c := range m.sees(api.Select{From: s.From, Joins: s.Joins[:len(s.Joins)-1]}) {
			names[c.source] = true
		}
		last := &s.Joins[len(s.Joins)-1]
		if names[last.Source.Alias] || last.Source.Alias == "" && names[last.Source.Table] {
			if !m.chance(m.odd) {
				last.Source.Alias = "s" + strconv.Itoa(len(s.Joins))
			}
		}
	}
	for i := range s.Joins {
		l := m.sees(api.Select{From: s.From, Joins: append([]api.Join{}, s.Joins[:i+1]...)})
		s.Joins[i].On = m.expression(l, api.KindBool)
	}
	l := m.sees(api.Select{From: s.From, Joins: append([]api.Join{}, s.Joins...)})
	if m.chance(2) {
		s.HasWhere, s.Where = true, m.expression(l, api.KindBool)
	}
	if m.chance(3) {
		m.group(&s, l, kinds)
		return s
	}
	for _, kind := range kinds {
		s.Items = append(s.Items, m.item(api.Item{Expr: m.expression(l, kind)}))
	}
	if m.chance(8) {
		s.Items = []api.Item{{Star: true}}
	}
	return s
}

// item returns an item with a name or without.
func (m *maker) item(i api.Item) api.Item {
	if m.chance(3) {
		i.Name = []string{"a", "n", "column1"}[m.next(3)]
	}
	return i
}

// group groups a select.
func (m *maker) group(s *api.Select, l []seen, kinds []int) {
	for range m.next(4) {
		if e, ok := m.reference(l, m.kind()); ok {
			s.GroupBy = append(s.GroupBy, e)
		}
	}
	for _, kind := range kinds {
		e, ok := m.reference(l, kind)
		if ok && m.chance(2) {
			s.Items = append(s.Items, m.item(api.Item{Expr: e}))
			if !m.chance(2 * m.odd) {
				s.GroupBy = append(s.GroupBy, e)
			}
			continue
		}
		i := api.Item{Agg: api.AggMin + m.next(2), Expr: m.expression(l, kind)}
		if kind == api.KindInt && m.chance(2) {
			i.Agg = api.AggCount + m.next(2)
			if i.Agg == api.AggCount {
				i.Expr = m.expression(l, m.kind())
			}
			if i.Agg == api.AggCount && m.chance(2) {
				i = api.Item{Agg: i.Agg, Star: true}
			}
		}
		s.Items = append(s.Items, m.item(i))
	}
	switch {
	case m.chance(m.odd):
		s.Items = []api.Item{{Star: true}}
	case m.chance(m.odd):
		s.Items = append(s.Items, api.Item{Expr: m.expression(l, m.kind())})
	}
}

func (m *maker) combined(kinds []int) api.Query {
	if m.chance(m.odd) {
		kinds = some(m, 1, 4, m.kind)
	}
	if !m.chance(3) {
		return api.Query{Select: m.selection(kinds), Limit: -1}
	}
	return api.Query{Op: api.QueryUnion + m.next(3), All: m.chance(2), Args: []api.Query{m.combined(kinds), m.combined(kinds)}, Limit: -1}
}

func (m *maker) query() api.Query {
	kinds := some(m, 1, 4, m.kind)
	q := m.combined(kinds)
	if m.mode == api.ModeSequenced && !m.chance(m.odd) {
		return q
	}
	for range max(0, m.next(5)-2) {
		most := len(kinds)
		if m.chance(m.odd) {
			most++
		}
		q.Order = append(q.Order, api.Order{Column: m.next(most), Desc: m.chance(2)})
	}
	if m.chance(3) {
		q.Limit = m.next(4)
	}
	return q
}

// newMaker returns a maker for a catalog at a system time.
func newMaker(seed uint64) *maker {
	return &maker{next: random(seed), c: sample(), at: 30, odd: 40}
}
