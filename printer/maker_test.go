package printer_test

import (
	"reflect"

	"bitemporal/api"
)

// A maker makes random things that are printable, unless they become too deep, and damages them.
type maker struct {
	next func(n int) int
	left int // about how many operands may still be made
}

func newMaker(seed uint64) *maker { return &maker{next: random(seed)} }

// random returns numbers below n that depend only on the seed.
func random(seed uint64) func(n int) int {
	return func(n int) int {
		seed = seed*6364136223846793005 + 1442695040888963407
		return int(seed >> 33 % uint64(n))
	}
}

// chance is true once in n times.
func (m *maker) chance(n int) bool { return m.next(n) == 0 }

// some returns up to most elements, but at least one if there must be one.
func some[T any](m *maker, least, most int, element func() T) []T {
	var l []T
	for range least + m.next(most-least+1) {
		l = append(l, element())
	}
	return l
}

func (m *maker) name() string {
	return []string{"a", "b", "c", "t", "u", "x_1", "_", "selects"}[m.next(8)]
}

func (m *maker) optional() string {
	if m.chance(2) {
		return ""
	}
	return m.name()
}

func (m *maker) instant() int { return []int{0, 1, 7, api.Forever - 1}[m.next(4)] }

func (m *maker) period() api.Period {
	return []api.Period{{From: 0, To: api.Forever}, {From: 0, To: 1}, {From: 3, To: api.Forever - 1}, {From: 7, To: api.Forever}, {From: api.Forever - 1, To: api.Forever}}[m.next(5)]
}

func integer(n int) api.Value { return api.Value{Kind: api.KindInt, Int: n} }

func (m *maker) value() api.Value {
	return []api.Value{{}, integer(0), integer(5), integer(-5), integer(-api.MaxNumber), {Kind: api.KindText, Text: "it's"}, {Kind: api.KindText}, {Kind: api.KindBool}, {Kind: api.KindBool, Int: 1}}[m.next(9)]
}

func (m *maker) reference() api.Expr {
	if m.chance(3) {
		return name(m.name() + "." + m.name())
	}
	return name(m.name())
}

func name(s string) api.Expr { return api.Expr{Op: api.OpName, Name: s} }

func constant(v api.Value) api.Expr { return api.Expr{Op: api.OpConst, Value: v} }

func operation(op int, args ...api.Expr) api.Expr { return api.Expr{Op: op, Args: args} }

// operators are those of the grammar that have operands, with their least and greatest number.
var operators = []struct{ op, least, most int }{
	{api.OpNot, 1, 1}, {api.OpNot, 1, 1}, {api.OpAnd, 2, 4}, {api.OpAnd, 2, 2}, {api.OpOr, 2, 4}, {api.OpOr, 2, 2},
	{api.OpEq, 2, 2}, {api.OpNe, 2, 2}, {api.OpLt, 2, 2}, {api.OpLe, 2, 2}, {api.OpGt, 2, 2}, {api.OpGe, 2, 2}, {api.OpIsNull, 1, 1},
	{api.OpAdd, 2, 2}, {api.OpSub, 2, 2}, {api.OpSub, 2, 2}, {api.OpConcat, 2, 2}, {api.OpMul, 2, 2}, {api.OpDiv, 2, 2}, {api.OpMod, 2, 2}, {api.OpNeg, 1, 1}, {api.OpNeg, 1, 1},
	{api.OpLength, 1, 1}, {api.OpIf, 3, 3}, {api.OpCoalesce, 1, 3},
}

func (m *maker) expr() api.Expr {
	m.left--
	if m.left < 0 || m.chance(4) {
		return m.leaf()
	}
	o := operators[m.next(len(operators))]
	return operation(o.op, some(m, o.least, o.most, m.expr)...)
}

func (m *maker) leaf() api.Expr {
	switch m.next(8) {
	case 0:
		return api.Expr{Op: api.OpPeriod, Int: m.next(api.Bounds), Name: m.name()}
	case 1:
		return api.Expr{Op: api.OpRelate, Int: m.next(api.Relations), Args: []api.Expr{name(m.name()), name(m.name())}}
	case 2, 3, 4:
		return constant(m.value())
	}
	return m.reference()
}

func (m *maker) source() api.Source {
	s := api.Source{Table: m.name(), Alias: m.optional(), Under: -1}
	switch m.next(6) {
	case 0:
		s.Clause = api.Clause{Kind: api.ClauseAsOf, From: m.instant()}
	case 1:
		p := m.period()
		s.Clause = api.Clause{Kind: api.ClauseFromTo, From: p.From, To: p.To}
	case 2:
		at := m.instant()
		s.Clause = api.Clause{Kind: api.ClauseBetween, From: at / (1 + m.next(2)), To: at}
	case 3:
		s.Clause = api.Clause{Kind: api.ClauseAll}
	}
	if m.chance(3) {
		s.Under = m.instant()
	}
	return s
}

func (m *maker) item() api.Item {
	i := api.Item{Agg: max(0, m.next(9)-4), Name: m.optional()}
	if i.Agg == api.AggCount && m.chance(2) {
		i.Star = true
		return i
	}
	i.Expr = m.expr()
	return i
}

func (m *maker) join() api.Join { return api.Join{Source: m.source(), Left: m.chance(2), On: m.expr()} }

func (m *maker) where() (bool, api.Expr) {
	if m.chance(2) {
		return false, api.Expr{}
	}
	return true, m.expr()
}

func (m *maker) combined() api.Query {
	m.left--
	q := api.Query{Limit: -1}
	if m.left > 0 && m.chance(3) {
		q.Op, q.All = api.QueryUnion+m.next(3), m.chance(2)
		q.Args = []api.Query{m.combined(), m.combined()}
		return q
	}
	q.Select = api.Select{Distinct: m.chance(3), Items: []api.Item{{Star: true}}, From: m.source()}
	if m.chance(2) {
		q.Select.Items = some(m, 1, 3, m.item)
	}
	q.Select.Joins = some(m, 0, m.next(3), m.join)
	q.Select.HasWhere, q.Select.Where = m.where()
	q.Select.GroupBy = some(m, 0, m.next(3), m.reference)
	return q
}

func (m *maker) query() api.Query {
	q := m.combined()
	q.Order = some(m, 0, m.next(3), func() api.Order {
		return api.Order{Column: []int{0, 1, 11, api.MaxNumber - 1}[m.next(4)], Desc: m.chance(2)}
	})
	if m.chance(3) {
		q.Limit = []int{0, 1, api.MaxNumber}[m.next(3)]
	}
	return q
}

func (m *maker) table() api.Table {
	t := api.Table{Name: m.name()}
	first := map[string]int{}
	for i, c := range some(m, 1, 4, m.column) {
		t.Columns = append(t.Columns, c)
		if _, ok := first[c.Name]; !ok {
			first[c.Name] = i
		}
	}
	columns := func() []int {
		return some(m, 1, 3, func() int { return first[t.Columns[m.next(len(t.Columns))].Name] })
	}
	t.Key = columns()
	t.Foreigns = some(m, 0, m.next(3), func() api.Foreign { return api.Foreign{Columns: columns(), Table: m.name()} })
	return t
}

func (m *maker) column() api.Column {
	return api.Column{Name: m.name(), Kind: api.KindInt + m.next(3), Nullable: m.chance(2)}
}

func (m *maker) change() api.Change {
	switch m.next(4) {
	case 0:
		return api.Change{Kind: api.ChangeAdd, Column: m.column(), Default: m.value()}
	case 1:
		return api.Change{Kind: api.ChangeDrop, Name: m.name()}
	case 2:
		return api.Change{Kind: api.ChangeRename, Name: m.name(), To: m.name()}
	}
	return api.Change{Kind: api.ChangeText, Name: m.name()}
}

func (m *maker) statement() api.Statement {
	m.left = m.next(30)
	s := api.Statement{Kind: []int{api.StmtQuery, api.StmtQuery, api.StmtQuery, api.StmtInsert, api.StmtUpdate, api.StmtDelete, api.StmtCreate, api.StmtCreate, api.StmtAlter, api.StmtAlter, api.StmtBegin, api.StmtCommit, api.StmtRollback, api.StmtNow, api.StmtHold, api.StmtRelease, api.StmtRetain, api.StmtPrune}[m.next(18)]}
	switch s.Kind {
	case api.StmtQuery, api.StmtInsert, api.StmtUpdate, api.StmtDelete:
		m.temporal(&s)
	case api.StmtCreate:
		s.Table, s.Checks = m.table(), some(m, 0, m.next(3), m.expr)
	case api.StmtAlter:
		s.Name, s.Change = m.name(), m.change()
	case api.StmtNow:
		s.Number = m.instant()
	case api.StmtHold:
		s.Hold = api.Hold{Name: m.name(), Table: m.name(), Rect: api.Rect{Valid: m.period(), System: m.period()}}
	case api.StmtRelease:
		s.Name = m.name()
	case api.StmtRetain:
		s.Name, s.Number = m.name(), []int{0, 1, api.Forever}[m.next(3)]
	}
	return s
}

func (m *maker) temporal(s *api.Statement) {
	switch m.next(4) {
	case 1:
		at := m.instant()
		s.Mode, s.Valid = api.ModeValidAt, api.Period{From: at, To: at + 1}
	case 2:
		s.Mode, s.Valid = api.ModeSequenced, m.period()
	case 3:
		if s.Kind == api.StmtQuery {
			s.Mode = api.ModeNonsequenced
		}
	}
	switch s.Kind {
	case api.StmtQuery:
		s.Query = m.query()
		return
	case api.StmtInsert:
		s.Rows = some(m, 1, 3, func() []api.Expr { return some(m, 1, 3, m.expr) })
	case api.StmtUpdate:
		s.Sets = some(m, 1, 3, func() api.Set { return api.Set{Name: m.name(), Expr: m.expr()} })
	}
	s.Name = m.name()
	if s.Kind != api.StmtInsert {
		s.HasWhere, s.Where = m.where()
	}
}

// fields calls f with each number, string, flag and list within v.
func fields(v reflect.Value, f func(reflect.Value)) {
	switch v.Kind() {
	case reflect.Struct:
		for i := range v.NumField() {
			fields(v.Field(i), f)
		}
	case reflect.Slice:
		f(v)
		for i := range v.Len() {
			fields(v.Index(i), f)
		}
	default:
		f(v)
	}
}

// damage changes a field at random. What has been made has no memory in common with anything else, so that this is the
// only change.
func (m *maker) damage(v reflect.Value) {
	var l []reflect.Value
	fields(v, func(f reflect.Value) { l = append(l, f) })
	f := l[m.next(len(l))]
	switch f.Kind() {
	case reflect.Int:
		n := f.Int()
		if m.chance(2) {
			n += int64(1 - 2*m.next(2))
		} else {
			n = []int64{-1 << 63, -1, 0, 1, 2, 3, 26, api.Forever - 1, api.Forever, api.MaxNumber - 1, api.MaxNumber, api.MaxNumber + 1, 1<<63 - 1}[m.next(13)]
		}
		f.SetInt(n)
	case reflect.String:
		f.SetString([]string{"", "a", "b", "a.b", "a.b.c", ".", ".a", "a.", "a. b", "A", "select", "9", "a b", "a AS b", "a, b", "'", "\n", "abcdefghijklmnopqrstuvwx", "abcdefghijklmnopqrstuvwxy"}[m.next(19)])
	case reflect.Bool:
		f.SetBool(!f.Bool())
	case reflect.Slice:
		m.damageList(f)
	}
}

func (m *maker) damageList(f reflect.Value) {
	n := f.Len()
	switch {
	case n == 0 || m.chance(4):
		f.Set(reflect.Append(f, reflect.Zero(f.Type().Elem())))
	case m.chance(2):
		f.Set(f.Slice(0, n-1))
	case m.chance(2):
		f.Set(f.Slice(1, n))
	default:
		f.SetZero()
	}
}
