package syntax_test

import (
	"slices"
	"strconv"
	"strings"

	"bitemporal/api"
)

// A writer chooses random texts of the grammar, as tokens, together with what they yield.
type writer struct {
	next func(n int) int
	left int // about how many operands the text may still get
}

func newWriter(seed uint64) *writer { return &writer{next: random(seed)} }

// random returns numbers below n that depend only on the seed.
func random(seed uint64) func(n int) int {
	return func(n int) int {
		seed = seed*6364136223846793005 + 1442695040888963407
		return int(seed >> 33 % uint64(n))
	}
}

// phrase returns the tokens of parts: texts with tokens between blanks, and lists of tokens.
func phrase(parts ...any) []string {
	var l []string
	for _, p := range parts {
		switch p := p.(type) {
		case string:
			l = append(l, strings.Fields(p)...)
		case []string:
			l = append(l, p...)
		}
	}
	return l
}

// chance is true once in n times.
func (w *writer) chance(n int) bool { return w.next(n) == 0 }

// grows is true once in n times while the text may still grow.
func (w *writer) grows(n int) bool { return w.left > 0 && w.chance(n) }

func (w *writer) name() string {
	return []string{"a", "b", "c", "t", "u", "x_1", "_", "selects"}[w.next(8)]
}

func (w *writer) constant() ([]string, api.Value) {
	switch w.next(6) {
	case 0:
		return phrase("NULL"), api.Value{}
	case 1:
		return phrase("TRUE"), api.Value{Kind: api.KindBool, Int: 1}
	case 2:
		return phrase("FALSE"), api.Value{Kind: api.KindBool}
	case 3:
		s := []string{"", "x", "(", "SELECT", "-", ";", "name", "42"}[w.next(8)]
		return phrase("'" + s + "'"), api.Value{Kind: api.KindText, Text: s}
	}
	n := []int{0, 1, 42, api.Forever, api.MaxNumber}[w.next(5)]
	return phrase(strconv.Itoa(n)), api.Value{Kind: api.KindInt, Int: n}
}

func (w *writer) literal() ([]string, api.Value) {
	l, v := w.constant()
	if v.Kind == api.KindInt && w.chance(2) {
		v.Int = -v.Int
		l = phrase("-", l)
	}
	return l, v
}

// several joins one to three parts. It chooses a further part once in n times.
func several[T any](w *writer, between string, n int, part func() ([]string, T)) ([]string, []T) {
	l, x := part()
	all := []T{x}
	for len(all) < 3 && w.grows(n) {
		m, y := part()
		l = phrase(l, between, m)
		all = append(all, y)
	}
	return l, all
}

func made(op int, args ...api.Expr) api.Expr { return api.Expr{Op: op, Args: args} }

func (w *writer) or() ([]string, api.Expr) {
	l, parts := several(w, "OR", 4, w.and)
	if len(parts) == 1 {
		return l, parts[0]
	}
	return l, made(api.OpOr, parts...)
}

func (w *writer) and() ([]string, api.Expr) {
	l, parts := several(w, "AND", 4, w.not)
	if len(parts) == 1 {
		return l, parts[0]
	}
	return l, made(api.OpAnd, parts...)
}

func (w *writer) not() ([]string, api.Expr) {
	if w.grows(6) {
		l, e := w.not()
		return phrase("NOT", l), made(api.OpNot, e)
	}
	return w.compare()
}

var relations = []string{"BEFORE", "MEETS", "OVERLAPS", "STARTS", "DURING", "FINISHES", "EQUALS", "FINISHEDBY", "CONTAINS", "STARTEDBY", "OVERLAPPEDBY", "METBY", "AFTER"}

func named(s string) api.Expr { return api.Expr{Op: api.OpName, Name: s} }

func (w *writer) compare() ([]string, api.Expr) {
	if w.chance(8) {
		a, rel, b := w.name(), w.next(len(relations)), w.name()
		return phrase(a, relations[rel], b), api.Expr{Op: api.OpRelate, Int: rel, Args: []api.Expr{named(a), named(b)}}
	}
	l, e := w.sum()
	switch w.next(5) {
	case 0:
		op := w.next(6)
		m, f := w.sum()
		return phrase(l, strings.Fields("= <> < <= > >=")[op], m), made([]int{api.OpEq, api.OpNe, api.OpLt, api.OpLe, api.OpGt, api.OpGe}[op], e, f)
	case 1:
		return phrase(l, "IS NULL"), made(api.OpIsNull, e)
	case 2:
		if w.chance(2) {
			return phrase(l, "IS NOT NULL"), made(api.OpNot, made(api.OpIsNull, e))
		}
	}
	return l, e
}

func (w *writer) sum() ([]string, api.Expr) {
	return w.chain("+ - ||", []int{api.OpAdd, api.OpSub, api.OpConcat}, w.product)
}

func (w *writer) product() ([]string, api.Expr) {
	return w.chain("* / %", []int{api.OpMul, api.OpDiv, api.OpMod}, w.unary)
}

// chain combines parts from left to right.
func (w *writer) chain(symbols string, ops []int, part func() ([]string, api.Expr)) ([]string, api.Expr) {
	l, e := part()
	for w.grows(5) {
		op := w.next(3)
		m, f := part()
		l = phrase(l, strings.Fields(symbols)[op], m)
		e = made(ops[op], e, f)
	}
	return l, e
}

func (w *writer) unary() ([]string, api.Expr) {
	if !w.grows(5) {
		return w.primary()
	}
	l, e := w.unary()
	if '0' <= l[0][0] && l[0][0] <= '9' {
		e.Value.Int = -e.Value.Int
		return phrase("-", l), e
	}
	return phrase("-", l), made(api.OpNeg, e)
}

func (w *writer) ref() ([]string, api.Expr) {
	a := w.name()
	if w.chance(3) {
		b := w.name()
		return phrase(a, ".", b), named(a + "." + b)
	}
	return phrase(a), named(a)
}

func (w *writer) primary() ([]string, api.Expr) {
	w.left--
	choice := w.next(8)
	if w.left <= 0 {
		choice += 5
	}
	switch choice {
	case 0:
		l, e := w.or()
		return phrase("(", l, ")"), e
	case 1:
		a, d := w.or()
		b, e := w.or()
		c, f := w.or()
		return phrase("IF (", a, ",", b, ",", c, ")"), made(api.OpIf, d, e, f)
	case 2:
		l, args := several(w, ",", 2, w.or)
		return phrase("COALESCE (", l, ")"), made(api.OpCoalesce, args...)
	case 3:
		l, e := w.or()
		return phrase("LENGTH (", l, ")"), made(api.OpLength, e)
	case 4:
		i, n := w.next(api.Bounds), w.name()
		return phrase(strings.Fields("VALIDFROM VALIDTO SYSTEMFROM SYSTEMTO TX")[i], "(", n, ")"), api.Expr{Op: api.OpPeriod, Int: i, Name: n}
	}
	if choice%2 == 0 {
		return w.ref()
	}
	l, v := w.constant()
	return l, api.Expr{Op: api.OpConst, Value: v}
}

// expr chooses an expression; every statement begins with few operands left, and every expression gets some more.
func (w *writer) expr() ([]string, api.Expr) {
	w.left = min(w.left, 0) + w.next(12)
	l, e := w.or()
	if w.chance(100) {
		return w.wrapped(l, e)
	}
	return l, e
}

// wrapped puts an expression into others, up to about the greatest depth that is permitted.
func (w *writer) wrapped(l []string, e api.Expr) ([]string, api.Expr) {
	for range 19 + w.next(12) {
		switch w.next(6) {
		case 0:
			l, e = phrase("NOT (", l, ")"), made(api.OpNot, e)
		case 1:
			l, e = phrase("LENGTH (", l, ")"), made(api.OpLength, e)
		case 2:
			l, e = phrase("- (", l, ")"), made(api.OpNeg, e)
		case 3:
			l, e = phrase("a < (", l, ")"), made(api.OpLt, named("a"), e)
		case 4:
			l, e = phrase("(", l, ") IS NULL"), made(api.OpIsNull, e)
		default:
			l = phrase("(", l, ")")
		}
	}
	return l, e
}

func (w *writer) instant() ([]string, int) {
	n := []int{0, 1, 2, 50, api.Forever - 1}[w.next(5)]
	return phrase(strconv.Itoa(n)), n
}

func (w *writer) period() ([]string, api.Period) {
	from, to := w.next(50), 50+w.next(50)
	end := strconv.Itoa(to)
	switch w.next(4) {
	case 0:
		to, end = api.Forever, "FOREVER"
	case 1:
		to, end = api.Forever-1, strconv.Itoa(api.Forever-1)
	}
	return phrase("FROM", strconv.Itoa(from), "TO", end), api.Period{From: from, To: to}
}

func (w *writer) source() ([]string, api.Source) {
	s := api.Source{Table: w.name(), Under: -1}
	l := phrase(s.Table)
	if w.chance(3) {
		s.Alias = w.name()
		l = phrase(l, "AS", s.Alias)
	}
	switch w.next(8) {
	case 0:
		m, n := w.instant()
		l, s.Clause = phrase(l, "SYSTEM AS OF", m), api.Clause{Kind: api.ClauseAsOf, From: n}
	case 1:
		m, p := w.period()
		l, s.Clause = phrase(l, "SYSTEM", m), api.Clause{Kind: api.ClauseFromTo, From: p.From, To: p.To}
	case 2:
		from := w.next(9)
		to := from + w.next(2)*9
		l, s.Clause = phrase(l, "SYSTEM BETWEEN", strconv.Itoa(from), "AND", strconv.Itoa(to)), api.Clause{Kind: api.ClauseBetween, From: from, To: to}
	case 3:
		l, s.Clause = phrase(l, "SYSTEM ALL"), api.Clause{Kind: api.ClauseAll}
	}
	if w.chance(5) {
		m, n := w.instant()
		l, s.Under = phrase(l, "UNDER", m), n
	}
	return l, s
}

func (w *writer) item() ([]string, api.Item) {
	var i api.Item
	l, e := w.expr()
	i.Expr = e
	switch w.next(6) {
	case 0:
		l, i = phrase("COUNT ( * )"), api.Item{Agg: api.AggCount, Star: true}
	case 1:
		i.Agg = api.AggCount + w.next(4)
		l = phrase(strings.Fields("COUNT SUM MIN MAX")[i.Agg-api.AggCount], "(", l, ")")
	}
	if w.chance(3) {
		i.Name = w.name()
		l = phrase(l, "AS", i.Name)
	}
	return l, i
}

func (w *writer) selection() ([]string, api.Query) {
	var s api.Select
	l := phrase("SELECT")
	if w.chance(4) {
		s.Distinct = true
		l = phrase(l, "DISTINCT")
	}
	items, all := several(w, ",", 3, w.item)
	if w.chance(4) {
		items, all = phrase("*"), []api.Item{{Star: true}}
	}
	s.Items = all
	m, from := w.source()
	s.From = from
	l = phrase(l, items, "FROM", m)
	for w.grows(3) {
		m, source := w.source()
		c, on := w.expr()
		j := api.Join{Source: source, Left: w.chance(2), On: on}
		if j.Left {
			l = phrase(l, "LEFT")
		}
		l = phrase(l, "JOIN", m, "ON", c)
		s.Joins = append(s.Joins, j)
	}
	m, s.HasWhere, s.Where = w.where()
	l = phrase(l, m)
	if w.chance(4) {
		m, refs := several(w, ",", 2, w.ref)
		l = phrase(l, "GROUP BY", m)
		s.GroupBy = refs
	}
	return l, api.Query{Select: s, Limit: -1}
}

func (w *writer) where() ([]string, bool, api.Expr) {
	if w.chance(2) {
		return nil, false, api.Expr{}
	}
	l, e := w.expr()
	return phrase("WHERE", l), true, e
}

func (w *writer) combined() ([]string, api.Query) {
	l, q := w.term()
	for w.grows(3) {
		op := w.next(3)
		m, r := w.term()
		all := ""
		if w.chance(2) {
			all = "ALL"
		}
		l = phrase(l, strings.Fields("UNION EXCEPT INTERSECT")[op], all, m)
		q = api.Query{Op: api.QueryUnion + op, All: all != "", Args: []api.Query{q, r}, Limit: -1}
	}
	return l, q
}

// lengthened combines a query with others, up to about the greatest depth that is permitted.
func (w *writer) lengthened(l []string, q api.Query) ([]string, api.Query) {
	for range 19 + w.next(8) {
		m, r := phrase("SELECT * FROM t"), api.Query{Select: api.Select{Items: []api.Item{{Star: true}}, From: api.Source{Table: "t", Under: -1}}, Limit: -1}
		if w.chance(2) {
			l, q = phrase(l, "UNION", m), api.Query{Op: api.QueryUnion, Args: []api.Query{q, r}, Limit: -1}
		} else {
			l, q = phrase(m, "EXCEPT (", l, ")"), api.Query{Op: api.QueryExcept, Args: []api.Query{r, q}, Limit: -1}
		}
	}
	return l, q
}

func (w *writer) term() ([]string, api.Query) {
	if w.grows(5) {
		l, q := w.combined()
		return phrase("(", l, ")"), q
	}
	return w.selection()
}

func (w *writer) query() ([]string, api.Query) {
	l, q := w.combined()
	if w.chance(100) {
		l, q = w.lengthened(l, q)
	}
	if w.chance(3) {
		m, orders := several(w, ",", 2, func() ([]string, api.Order) {
			n := 1 + w.next(20)
			if w.chance(3) {
				return phrase(strconv.Itoa(n), "DESC"), api.Order{Column: n - 1, Desc: true}
			}
			return phrase(strconv.Itoa(n)), api.Order{Column: n - 1}
		})
		l, q.Order = phrase(l, "ORDER BY", m), orders
	}
	if w.chance(3) {
		q.Limit = w.next(3) * api.Forever
		l = phrase(l, "LIMIT", strconv.Itoa(q.Limit))
	}
	return l, q
}

func (w *writer) prefix() ([]string, int, api.Period) {
	switch w.next(5) {
	case 0:
		l, n := w.instant()
		return phrase("VALID AS OF", l), api.ModeValidAt, api.Period{From: n, To: n + 1}
	case 1:
		l, p := w.period()
		return phrase("SEQUENCED", l), api.ModeSequenced, p
	case 2:
		return phrase("SEQUENCED"), api.ModeSequenced, api.Period{From: 0, To: api.Forever}
	case 3:
		return phrase("NONSEQUENCED"), api.ModeNonsequenced, api.Period{}
	}
	return nil, api.ModeCurrent, api.Period{}
}

func (w *writer) temporal() ([]string, api.Statement) {
	prefix, mode, valid := w.prefix()
	choice := w.next(5)
	if mode == api.ModeNonsequenced {
		choice = 4
	}
	var l []string
	var s api.Statement
	switch choice {
	case 0:
		s = api.Statement{Kind: api.StmtInsert, Name: w.name()}
		m, rows := several(w, ",", 2, func() ([]string, []api.Expr) {
			m, row := several(w, ",", 2, w.expr)
			return phrase("(", m, ")"), row
		})
		l, s.Rows = phrase("INSERT INTO", s.Name, "VALUES", m), rows
	case 1:
		s = api.Statement{Kind: api.StmtUpdate, Name: w.name()}
		m, sets := several(w, ",", 2, func() ([]string, api.Set) {
			name := w.name()
			m, e := w.expr()
			return phrase(name, "=", m), api.Set{Name: name, Expr: e}
		})
		s.Sets = sets
		c, has, where := w.where()
		s.HasWhere, s.Where = has, where
		l = phrase("UPDATE", s.Name, "SET", m, c)
	case 2:
		s = api.Statement{Kind: api.StmtDelete, Name: w.name()}
		c, has, where := w.where()
		s.HasWhere, s.Where = has, where
		l = phrase("DELETE FROM", s.Name, c)
	default:
		m, q := w.query()
		l, s = m, api.Statement{Kind: api.StmtQuery, Query: q}
	}
	s.Mode, s.Valid = mode, valid
	return phrase(prefix, l), s
}

func (w *writer) column() ([]string, api.Column) {
	c := api.Column{Name: w.name(), Kind: api.KindInt + w.next(3)}
	l := phrase(c.Name, strings.Fields("INT TEXT BOOL")[c.Kind-api.KindInt])
	if w.chance(2) {
		c.Nullable = true
		l = phrase(l, "NULL")
	}
	return l, c
}

func (w *writer) names(columns []api.Column) ([]string, []int) {
	l, indices := several(w, ",", 2, func() ([]string, int) {
		name := columns[w.next(len(columns))].Name
		return phrase(name), slices.IndexFunc(columns, func(c api.Column) bool { return c.Name == name })
	})
	return phrase("(", l, ")"), indices
}

func (w *writer) create() ([]string, api.Statement) {
	s := api.Statement{Kind: api.StmtCreate}
	s.Table.Name = w.name()
	l, columns := several(w, ",", 2, w.column)
	s.Table.Columns = columns
	key, indices := w.names(columns)
	s.Table.Key = indices
	l = phrase("CREATE TABLE", s.Table.Name, "(", l, ", PRIMARY KEY", key)
	for w.chance(2) {
		m, indices := w.names(columns)
		f := api.Foreign{Columns: indices, Table: w.name()}
		l = phrase(l, ", FOREIGN KEY", m, "REFERENCES", f.Table)
		s.Table.Foreigns = append(s.Table.Foreigns, f)
	}
	for w.chance(2) {
		m, e := w.expr()
		l = phrase(l, ", CHECK (", m, ")")
		s.Checks = append(s.Checks, e)
	}
	return phrase(l, ")"), s
}

func (w *writer) alter() ([]string, api.Statement) {
	s := api.Statement{Kind: api.StmtAlter, Name: w.name()}
	l := phrase("ALTER TABLE", s.Name)
	a, b := w.name(), w.name()
	switch w.next(4) {
	case 0:
		m, c := w.column()
		d, v := w.literal()
		s.Change = api.Change{Kind: api.ChangeAdd, Column: c, Default: v}
		return phrase(l, "ADD", m, "DEFAULT", d), s
	case 1:
		s.Change = api.Change{Kind: api.ChangeDrop, Name: a}
		return phrase(l, "DROP", a), s
	case 2:
		s.Change = api.Change{Kind: api.ChangeRename, Name: a, To: b}
		return phrase(l, "RENAME", a, "TO", b), s
	}
	s.Change = api.Change{Kind: api.ChangeText, Name: a}
	return phrase(l, "TEXT", a), s
}

func (w *writer) statement() ([]string, api.Statement) {
	w.left = w.next(30)
	switch choice := w.next(16); choice {
	case 0, 1:
		return w.create()
	case 2, 3:
		return w.alter()
	case 4, 5, 6, 7:
		return phrase(strings.Fields("BEGIN COMMIT ROLLBACK PRUNE")[choice-4]), api.Statement{Kind: []int{api.StmtBegin, api.StmtCommit, api.StmtRollback, api.StmtPrune}[choice-4]}
	case 8:
		l, n := w.instant()
		return phrase("SET NOW", l), api.Statement{Kind: api.StmtNow, Number: n}
	case 9:
		h := api.Hold{Name: w.name(), Table: w.name()}
		v, valid := w.period()
		y, system := w.period()
		h.Rect = api.Rect{Valid: valid, System: system}
		return phrase("HOLD", h.Name, "ON", h.Table, "VALID", v, "SYSTEM", y), api.Statement{Kind: api.StmtHold, Hold: h}
	case 10:
		n := w.name()
		return phrase("RELEASE", n), api.Statement{Kind: api.StmtRelease, Name: n}
	case 11:
		n, keep := w.name(), []int{0, 1, api.Forever - 1, api.Forever}[w.next(4)]
		return phrase("RETAIN", n, strconv.Itoa(keep)), api.Statement{Kind: api.StmtRetain, Name: n, Number: keep}
	}
	return w.temporal()
}
