package printer_test

import (
	"slices"
	"strconv"
	"strings"

	"bitemporal/api"
)

// The model writes the tokens of what is printed, as the chapter and the grammar describe them, and then puts spaces
// between them. It writes anything, also what the parser cannot yield: that has the token ?, or is parsed as something else.

// unary is the token of the unary "-" in the lists of the model.
const unary = "unary -"

// model writes tokens. With extra, operands get parentheses that they need not have.
type model struct{ extra func() bool }

func canonical() *model { return &model{func() bool { return false }} }

var relations = strings.Fields("BEFORE MEETS OVERLAPS STARTS DURING FINISHES EQUALS FINISHEDBY CONTAINS STARTEDBY OVERLAPPEDBY METBY AFTER")

// text puts spaces between tokens.
func text(tokens []string) string {
	calls := strings.Fields("IF COALESCE LENGTH VALIDFROM VALIDTO SYSTEMFROM SYSTEMTO TX COUNT SUM MIN MAX")
	s := ""
	for i, t := range tokens {
		if i > 0 {
			before := tokens[i-1]
			joined := before == "(" || before == unary || before == "." || t == "." || t == ")" || t == "," || t == "(" && slices.Contains(calls, before)
			if !joined {
				s += " "
			}
		}
		s += strings.TrimPrefix(t, "unary ")
	}
	return s
}

// phrase returns the tokens of parts: texts with tokens between blanks, and lists of tokens.
func phrase(parts ...any) []string {
	var l []string
	for _, p := range parts {
		switch p := p.(type) {
		case string:
			l = append(l, strings.Fields(p)...)
		case []string:
			l = append(l, p...)
		}
	}
	return l
}

// commas returns the tokens of elements with commas between them.
func commas[T any](l []T, tokens func(T) []string) []string {
	var all []string
	for i, x := range l {
		if i > 0 {
			all = append(all, ",")
		}
		all = append(all, tokens(x)...)
	}
	return all
}

// chosen returns an element of a list, or ?.
func chosen(l []string, i int) string {
	if i < 0 || i >= len(l) {
		return "?"
	}
	return l[i]
}

// requirement is what the chapter says of an operator: its level, and the levels of its operands (of further ones the
// last level).
type requirement struct {
	word     string
	level    int
	operands []int
}

var requirements = map[int]requirement{
	api.OpOr: {"OR", 1, []int{2, 2}}, api.OpAnd: {"AND", 2, []int{3, 3}}, api.OpNot: {"NOT", 3, []int{3}},
	api.OpEq: {"=", 4, []int{5, 5}}, api.OpNe: {"<>", 4, []int{5, 5}}, api.OpLt: {"<", 4, []int{5, 5}},
	api.OpLe: {"<=", 4, []int{5, 5}}, api.OpGt: {">", 4, []int{5, 5}}, api.OpGe: {">=", 4, []int{5, 5}},
	api.OpIsNull: {"IS NULL", 4, []int{5}}, api.OpRelate: {"", 4, nil},
	api.OpAdd: {"+", 5, []int{5, 6}}, api.OpSub: {"-", 5, []int{5, 6}}, api.OpConcat: {"||", 5, []int{5, 6}},
	api.OpMul: {"*", 6, []int{6, 7}}, api.OpDiv: {"/", 6, []int{6, 7}}, api.OpMod: {"%", 6, []int{6, 7}},
	api.OpNeg: {"", 7, []int{8}},
}

func isInteger(e api.Expr) bool { return e.Op == api.OpConst && e.Value.Kind == api.KindInt }

func levelOf(e api.Expr) int {
	if r, ok := requirements[e.Op]; ok {
		return r.level
	}
	if isInteger(e) && e.Value.Int < 0 {
		return 7
	}
	return 8
}

// reference returns the tokens of a name, or of two with a point between them.
func reference(s string) []string {
	first, second, found := strings.Cut(s, ".")
	if !found {
		return []string{first}
	}
	return []string{first, ".", second}
}

func number(n int) []string {
	if n < 0 {
		return []string{unary, strconv.Itoa(n)[1:]}
	}
	return []string{strconv.Itoa(n)}
}

func literal(v api.Value) []string {
	switch v.Kind {
	case api.KindNull:
		return phrase("NULL")
	case api.KindInt:
		return number(v.Int)
	case api.KindText:
		return []string{"'" + strings.ReplaceAll(v.Text, "'", "''") + "'"}
	}
	return []string{chosen([]string{"FALSE", "TRUE"}, v.Int)}
}

// operand returns the tokens of an operand that must have a level.
func (m *model) operand(e api.Expr, least int, under int) []string {
	if levelOf(e) < least || under == api.OpNeg && isInteger(e) || m.extra() {
		return phrase("(", m.expr(e), ")")
	}
	return m.expr(e)
}

func (m *model) expr(e api.Expr) []string {
	switch e.Op {
	case api.OpConst:
		return literal(e.Value)
	case api.OpName:
		return reference(e.Name)
	case api.OpPeriod:
		return phrase(chosen(strings.Fields("VALIDFROM VALIDTO SYSTEMFROM SYSTEMTO TX"), e.Int), "(", []string{e.Name}, ")")
	case api.OpIf, api.OpCoalesce, api.OpLength:
		word := map[int]string{api.OpIf: "IF", api.OpCoalesce: "COALESCE", api.OpLength: "LENGTH"}[e.Op]
		return phrase(word, "(", commas(e.Args, func(a api.Expr) []string { return m.operand(a, 0, e.Op) }), ")")
	}
	r, ok := requirements[e.Op]
	if !ok || len(e.Args) == 0 || len(r.operands) == 1 && len(e.Args) != 1 {
		return []string{"?"}
	}
	return m.operation(e, r)
}

func (m *model) operation(e api.Expr, r requirement) []string {
	arg := func(i int) []string { return m.operand(e.Args[i], r.operands[min(i, len(r.operands)-1)], e.Op) }
	switch e.Op {
	case api.OpNeg:
		return phrase([]string{unary}, arg(0))
	case api.OpNot:
		return phrase(r.word, arg(0))
	case api.OpIsNull:
		return phrase(arg(0), r.word)
	case api.OpRelate:
		if len(e.Args) != 2 {
			return []string{"?"}
		}
		return phrase(m.expr(e.Args[0]), chosen(relations, e.Int), m.expr(e.Args[1]))
	}
	l := arg(0)
	for i := range e.Args[1:] {
		l = phrase(l, r.word, arg(i+1))
	}
	return l
}

func during(p api.Period) []string {
	if p.To == api.Forever {
		return phrase("FROM", number(p.From), "TO FOREVER")
	}
	return phrase("FROM", number(p.From), "TO", number(p.To))
}

func named(s string) []string {
	if s == "" {
		return nil
	}
	return []string{"AS", s}
}

// tokensIf returns the tokens of parts if it applies.
func tokensIf(applies bool, parts ...any) []string {
	if !applies {
		return nil
	}
	return phrase(parts...)
}

func source(s api.Source) []string {
	var c []string
	switch s.Clause.Kind {
	case api.ClauseCurrent:
	case api.ClauseAsOf:
		c = phrase("SYSTEM AS OF", number(s.Clause.From))
	case api.ClauseFromTo:
		c = phrase("SYSTEM", during(api.Period{From: s.Clause.From, To: s.Clause.To}))
	case api.ClauseBetween:
		c = phrase("SYSTEM BETWEEN", number(s.Clause.From), "AND", number(s.Clause.To))
	case api.ClauseAll:
		c = phrase("SYSTEM ALL")
	default:
		c = phrase("?")
	}
	return phrase([]string{s.Table}, named(s.Alias), c, tokensIf(s.Under != -1, "UNDER", number(s.Under)))
}

func (m *model) item(i api.Item) []string {
	of := phrase("*")
	if !i.Star {
		of = m.operand(i.Expr, 0, 0)
	}
	if i.Agg != 0 {
		of = phrase(chosen(strings.Fields("? COUNT SUM MIN MAX"), i.Agg), "(", of, ")")
	}
	return phrase(of, named(i.Name))
}

func (m *model) where(has bool, e api.Expr) []string {
	return tokensIf(has, "WHERE", m.expr(e))
}

func (m *model) selection(s api.Select) []string {
	l := phrase("SELECT", tokensIf(s.Distinct, "DISTINCT"), commas(s.Items, m.item), "FROM", source(s.From))
	for _, j := range s.Joins {
		l = phrase(l, tokensIf(j.Left, "LEFT"), "JOIN", source(j.Source), "ON", m.operand(j.On, 0, 0))
	}
	return phrase(l, m.where(s.HasWhere, s.Where), tokensIf(len(s.GroupBy) > 0, "GROUP BY", commas(s.GroupBy, m.expr)))
}

func (m *model) combined(q api.Query) []string {
	if q.Op == api.QuerySelect {
		return m.selection(q.Select)
	}
	if len(q.Args) != 2 {
		return []string{"?"}
	}
	second := m.combined(q.Args[1])
	if q.Args[1].Op != api.QuerySelect || m.extra() {
		second = phrase("(", second, ")")
	}
	return phrase(m.combined(q.Args[0]), chosen(strings.Fields("? UNION EXCEPT INTERSECT"), q.Op), tokensIf(q.All, "ALL"), second)
}

func (m *model) query(q api.Query) []string {
	l := m.combined(q)
	if m.extra() {
		l = phrase("(", l, ")")
	}
	order := func(o api.Order) []string { return phrase(number(o.Column+1), tokensIf(o.Desc, "DESC")) }
	return phrase(l, tokensIf(len(q.Order) > 0, "ORDER BY", commas(q.Order, order)), tokensIf(q.Limit != -1, "LIMIT", number(q.Limit)))
}

func prefix(mode int, valid api.Period) []string {
	switch mode {
	case api.ModeCurrent:
		return nil
	case api.ModeValidAt:
		return phrase("VALID AS OF", number(valid.From))
	case api.ModeSequenced:
		return phrase("SEQUENCED", tokensIf(valid != api.Period{From: 0, To: api.Forever}, during(valid)))
	case api.ModeNonsequenced:
		return phrase("NONSEQUENCED")
	}
	return phrase("?")
}

func column(c api.Column) []string {
	return phrase([]string{c.Name}, chosen(strings.Fields("? INT TEXT BOOL"), c.Kind), tokensIf(c.Nullable, "NULL"))
}

func (m *model) create(t api.Table, checks []api.Expr) []string {
	names := func(l []int) []string {
		return phrase("(", commas(l, func(i int) []string {
			if i < 0 || i >= len(t.Columns) {
				return phrase("?")
			}
			return []string{t.Columns[i].Name}
		}), ")")
	}
	l := phrase("CREATE TABLE", []string{t.Name}, "(", commas(t.Columns, column), ", PRIMARY KEY", names(t.Key))
	for _, f := range t.Foreigns {
		l = phrase(l, ", FOREIGN KEY", names(f.Columns), "REFERENCES", []string{f.Table})
	}
	for _, e := range checks {
		l = phrase(l, ", CHECK (", m.operand(e, 0, 0), ")")
	}
	return phrase(l, ")")
}

func alter(name string, c api.Change) []string {
	l := phrase("ALTER TABLE", []string{name})
	switch c.Kind {
	case api.ChangeAdd:
		return phrase(l, "ADD", column(c.Column), "DEFAULT", literal(c.Default))
	case api.ChangeDrop:
		return phrase(l, "DROP", []string{c.Name})
	case api.ChangeRename:
		return phrase(l, "RENAME", []string{c.Name}, "TO", []string{c.To})
	case api.ChangeText:
		return phrase(l, "TEXT", []string{c.Name})
	}
	return phrase("?")
}

func (m *model) statement(s api.Statement) []string {
	switch s.Kind {
	case api.StmtQuery:
		return phrase(prefix(s.Mode, s.Valid), m.query(s.Query))
	case api.StmtInsert:
		expr := func(e api.Expr) []string { return m.operand(e, 0, 0) }
		row := func(l []api.Expr) []string { return phrase("(", commas(l, expr), ")") }
		return phrase(prefix(s.Mode, s.Valid), "INSERT INTO", []string{s.Name}, "VALUES", commas(s.Rows, row))
	case api.StmtUpdate:
		set := func(x api.Set) []string { return phrase([]string{x.Name}, "=", m.operand(x.Expr, 0, 0)) }
		return phrase(prefix(s.Mode, s.Valid), "UPDATE", []string{s.Name}, "SET", commas(s.Sets, set), m.where(s.HasWhere, s.Where))
	case api.StmtDelete:
		return phrase(prefix(s.Mode, s.Valid), "DELETE FROM", []string{s.Name}, m.where(s.HasWhere, s.Where))
	case api.StmtCreate:
		return m.create(s.Table, s.Checks)
	case api.StmtAlter:
		return alter(s.Name, s.Change)
	case api.StmtBegin, api.StmtCommit, api.StmtRollback, api.StmtPrune:
		return phrase(map[int]string{api.StmtBegin: "BEGIN", api.StmtCommit: "COMMIT", api.StmtRollback: "ROLLBACK", api.StmtPrune: "PRUNE"}[s.Kind])
	case api.StmtNow:
		return phrase("SET NOW", number(s.Number))
	case api.StmtHold:
		return phrase("HOLD", []string{s.Hold.Name}, "ON", []string{s.Hold.Table}, "VALID", during(s.Hold.Rect.Valid), "SYSTEM", during(s.Hold.Rect.System))
	case api.StmtRelease:
		return phrase("RELEASE", []string{s.Name})
	case api.StmtRetain:
		return phrase("RETAIN", []string{s.Name}, number(s.Number))
	}
	return phrase("?")
}
