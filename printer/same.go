package printer

import (
	"slices"

	"bitemporal/api"
	"bitemporal/expr"
	"bitemporal/schema"
)

// Same reports whether two statements are identical.
func Same(a, b api.Statement) bool {
	return a.Kind == b.Kind && a.Mode == b.Mode && a.Valid == b.Valid && sameQuery(a.Query, b.Query) && a.Name == b.Name &&
		slices.EqualFunc(a.Rows, b.Rows, sameExprs) && slices.EqualFunc(a.Sets, b.Sets, sameSet) &&
		a.HasWhere == b.HasWhere && expr.Same(a.Where, b.Where) && schema.Same(a.Table, b.Table) && sameExprs(a.Checks, b.Checks) &&
		a.Change == b.Change && a.Hold == b.Hold && a.Number == b.Number
}

func sameExprs(a, b []api.Expr) bool { return slices.EqualFunc(a, b, expr.Same) }

func sameSet(a, b api.Set) bool { return a.Name == b.Name && expr.Same(a.Expr, b.Expr) }

func sameQuery(a, b api.Query) bool {
	return a.Op == b.Op && a.All == b.All && sameSelect(a.Select, b.Select) && slices.EqualFunc(a.Args, b.Args, sameQuery) &&
		slices.Equal(a.Order, b.Order) && a.Limit == b.Limit
}

func sameSelect(a, b api.Select) bool {
	return a.Distinct == b.Distinct && slices.EqualFunc(a.Items, b.Items, sameItem) &&
		a.From == b.From && slices.EqualFunc(a.Joins, b.Joins, sameJoin) &&
		a.HasWhere == b.HasWhere && expr.Same(a.Where, b.Where) && sameExprs(a.GroupBy, b.GroupBy)
}

func sameItem(a, b api.Item) bool {
	return expr.Same(a.Expr, b.Expr) && a.Agg == b.Agg && a.Star == b.Star && a.Name == b.Name
}

func sameJoin(a, b api.Join) bool {
	return a.Source == b.Source && a.Left == b.Left && expr.Same(a.On, b.On)
}
