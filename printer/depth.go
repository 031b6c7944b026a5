package printer

import (
	"slices"

	"bitemporal/api"
	"bitemporal/expr"
)

// isDeep reports whether an expression is too deep.
func isDeep(e api.Expr) bool { return expr.Depth(e) > api.MaxDepth }

func anyDeep(l []api.Expr) bool { return slices.ContainsFunc(l, isDeep) }

// isDeepQuery reports whether a query or an expression in it is too deep.
func isDeepQuery(q api.Query) bool { return depth(q) > api.MaxDepth || hasDeep(q) }

func depth(q api.Query) int {
	deepest := 0
	for _, a := range q.Args {
		deepest = max(deepest, depth(a))
	}
	return 1 + deepest
}

// hasDeep reports whether an expression in a query is too deep.
func hasDeep(q api.Query) bool {
	return hasDeepSelect(q.Select) || slices.ContainsFunc(q.Args, hasDeep)
}

func hasDeepSelect(s api.Select) bool {
	return isDeep(s.Where) || anyDeep(s.GroupBy) ||
		slices.ContainsFunc(s.Items, func(i api.Item) bool { return isDeep(i.Expr) }) ||
		slices.ContainsFunc(s.Joins, func(j api.Join) bool { return isDeep(j.On) })
}

// isDeepStatement reports whether an expression or a query in a statement is too deep.
func isDeepStatement(s api.Statement) bool {
	return isDeepQuery(s.Query) || isDeep(s.Where) || anyDeep(s.Checks) || anyDeep(s.Table.Checks) ||
		slices.ContainsFunc(s.Rows, anyDeep) ||
		slices.ContainsFunc(s.Sets, func(x api.Set) bool { return isDeep(x.Expr) })
}
