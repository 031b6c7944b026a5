package testkit

import (
	"slices"

	"bitemporal/api"
)

// Expr returns an expression of a kind over columns of these kinds.
func (m *Maker) Expr(kinds []int, kind, depth int) api.Expr {
	if depth == 0 || m.Chance(4) {
		return m.leaf(kinds, kind)
	}
	arg := func(kind int) api.Expr { return m.Expr(kinds, kind, depth-1) }
	switch op := m.Below(4); {
	case op == 0 && kind != api.KindBool:
		return Operation(api.OpIf, arg(api.KindBool), arg(kind), arg(kind))
	case kind == api.KindInt:
		return Operation(api.OpAdd+m.Below(5), arg(kind), arg(kind))
	case kind == api.KindText:
		return Operation(api.OpConcat, arg(kind), arg(kind))
	case op == 0:
		return Operation(api.OpIsNull, arg(m.Kind()))
	case op == 1:
		return Operation(api.OpAnd+m.Below(2), arg(kind), arg(kind))
	}
	k := m.Kind()
	return Operation(api.OpEq+m.Below(6), arg(k), arg(k))
}

// leaf returns a column or a constant of a kind.
func (m *Maker) leaf(kinds []int, kind int) api.Expr {
	var l []int
	for i, k := range kinds {
		if k == kind {
			l = append(l, i)
		}
	}
	if len(l) == 0 || m.Chance(4) {
		v := m.Value(kind)
		if v.Kind == api.KindNull {
			return Operation(api.OpIf, Constant(v), Constant(m.some(kind)), Constant(v))
		}
		return Constant(v)
	}
	return Column(l[m.Below(len(l))])
}

// some returns a value of a kind that is not null.
func (m *Maker) some(kind int) api.Value {
	for {
		if v := m.Value(kind); v.Kind == kind {
			return v
		}
	}
}

// Predicate returns a predicate over a first and some further columns, often one with equations of both.
func (m *Maker) Predicate(first, second []int) api.Expr {
	kinds := slices.Concat(first, second)
	var l []api.Expr
	for m.Chance(2) {
		if m.Chance(2) {
			l = append(l, m.Expr(kinds, api.KindBool, 2))
			continue
		}
		i, j := m.Below(len(kinds)), m.Below(len(kinds))
		if kinds[i] == kinds[j] {
			l = append(l, Operation(api.OpEq, Column(i), Column(j)))
		}
	}
	switch {
	case len(l) == 0:
		yes := api.Value{Kind: api.KindBool, Int: 1}
		return Constant([]api.Value{yes, yes, {Kind: api.KindBool}, {}}[m.Below(4)])
	case len(l) == 1:
		return l[0]
	}
	return Operation(api.OpAnd, l...)
}

// Constant returns the expression of a value.
func Constant(v api.Value) api.Expr { return api.Expr{Op: api.OpConst, Value: v} }

// Column returns the expression of a column.
func Column(i int) api.Expr { return api.Expr{Op: api.OpColumn, Int: i} }

// Operation returns an expression with arguments.
func Operation(op int, args ...api.Expr) api.Expr { return api.Expr{Op: op, Args: args} }
