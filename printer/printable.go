package printer

import (
	"slices"
	"strings"

	"bitemporal/api"
	"bitemporal/expr"
	"bitemporal/lexer"
	"bitemporal/period"
)

// The functions of this file report whether the parser can yield something. None of them looks at depths.

// all reports whether is holds for all elements.
func all[T any](l []T, is func(T) bool) bool {
	return !slices.ContainsFunc(l, func(x T) bool { return !is(x) })
}

func isExpression(e api.Expr) bool {
	switch e.Op {
	case api.OpName:
		return isReference(e)
	case api.OpPeriod:
		return isFrom(e.Int, 0, api.Bounds-1) && lexer.Name(e.Name) && expr.Same(e, api.Expr{Op: e.Op, Int: e.Int, Name: e.Name})
	case api.OpRelate:
		return isFrom(e.Int, 0, api.Relations-1) && e.Value == api.Value{} && e.Name == "" && len(e.Args) == 2 && all(e.Args, isPlainName)
	case api.OpAllen:
		return false
	}
	return isOperation(e) && all(e.Args, isExpression)
}

// isReference reports whether e is a name, or two with a point between them.
func isReference(e api.Expr) bool {
	return all(strings.SplitN(e.Name, ".", 2), lexer.Name) && expr.Same(e, api.Expr{Op: api.OpName, Name: e.Name})
}

func isPlainName(e api.Expr) bool { return lexer.Name(e.Name) && isReference(e) }

// isOperation reports whether e is well-formed in itself over no columns: expr.Check accepts it with nulls as arguments,
// as these fit every kind.
func isOperation(e api.Expr) bool {
	null := api.Expr{Op: api.OpConst}
	e.Args = slices.Repeat([]api.Expr{null}, len(e.Args))
	_, err := expr.Check(e, nil)
	return err == api.OK
}

func isFrom(n, least, most int) bool { return least <= n && n <= most }

func isInstant(n int) bool { return isFrom(n, 0, api.Forever-1) }

func isZero(e api.Expr) bool { return expr.Same(e, api.Expr{}) }

// isOptional reports whether s is a name or nothing.
func isOptional(s string) bool { return s == "" || lexer.Name(s) }

func isWhere(has bool, e api.Expr) bool {
	if has {
		return isExpression(e)
	}
	return isZero(e)
}

func isQuery(q api.Query) bool {
	return isCombined(q) && all(q.Order, isOrder) && isFrom(q.Limit, -1, api.MaxNumber)
}

func isOrder(o api.Order) bool { return isFrom(o.Column, 0, api.MaxNumber-1) }

// isCombined reports whether the parser can yield q but for its order and its limit.
func isCombined(q api.Query) bool {
	if q.Op == api.QuerySelect {
		return !q.All && len(q.Args) == 0 && isSelect(q.Select)
	}
	return isFrom(q.Op, api.QueryUnion, api.QueryIntersect) && sameSelect(q.Select, api.Select{}) && len(q.Args) == 2 && all(q.Args, isPart)
}

// isPart reports whether the parser can yield q as an argument of a combination.
func isPart(q api.Query) bool { return isCombined(q) && len(q.Order) == 0 && q.Limit == -1 }

func isSelect(s api.Select) bool {
	return isList(s.Items) && isSource(s.From) && all(s.Joins, isJoin) && isWhere(s.HasWhere, s.Where) && all(s.GroupBy, isReference)
}

// isList reports whether the parser can yield the items of a select.
func isList(l []api.Item) bool {
	if len(l) == 1 && l[0].Star && l[0].Agg == 0 {
		return isZero(l[0].Expr) && l[0].Name == ""
	}
	return len(l) > 0 && all(l, isItem)
}

// isItem reports whether the parser can yield an item that does not stand for all columns.
func isItem(i api.Item) bool {
	if i.Star {
		return isZero(i.Expr) && i.Agg == api.AggCount && isOptional(i.Name)
	}
	return isExpression(i.Expr) && isFrom(i.Agg, 0, api.AggMax) && isOptional(i.Name)
}

func isJoin(j api.Join) bool { return isSource(j.Source) && isExpression(j.On) }

func isSource(s api.Source) bool {
	return lexer.Name(s.Table) && isOptional(s.Alias) && isClause(s.Clause) && isFrom(s.Under, -1, api.Forever-1)
}

func isClause(c api.Clause) bool {
	switch c.Kind {
	case api.ClauseCurrent, api.ClauseAll:
		return c.From == 0 && c.To == 0
	case api.ClauseAsOf:
		return isInstant(c.From) && c.To == 0
	case api.ClauseFromTo:
		return period.Valid(api.Period{From: c.From, To: c.To})
	case api.ClauseBetween:
		return 0 <= c.From && c.From <= c.To && c.To < api.Forever
	}
	return false
}
