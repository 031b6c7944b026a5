package tuple

import (
	"slices"

	"bitemporal/api"
	"bitemporal/value"
)

// Sort returns rows in ascending order.
func Sort(l [][]api.Value) [][]api.Value { return sorted(l, Compare) }

// Distinct returns the different rows in ascending order.
func Distinct(l [][]api.Value) [][]api.Value { return slices.CompactFunc(Sort(l), Equal) }

// Same reports whether two lists contain the same rows equally often.
func Same(a, b [][]api.Value) bool {
	return slices.EqualFunc(Sort(a), Sort(b), Equal)
}

// Order sorts rows by columns, and equal ones by the whole row.
func Order(l [][]api.Value, o []api.Order) [][]api.Value {
	return sorted(l, func(a, b []api.Value) int {
		for _, key := range o {
			if c := compareColumn(a, b, key); c != 0 {
				return c
			}
		}
		return Compare(a, b)
	})
}

// compareColumn orders rows by one column.
func compareColumn(a, b []api.Value, key api.Order) int {
	if key.Desc {
		a, b = b, a
	}
	return value.Compare(column(a, key.Column), column(b, key.Column))
}

// sorted returns a copy of a list of lists, in ascending order. The inner lists are copied too, each for itself, since a result must not share memory with an argument.
func sorted[E any](l [][]E, compare func(a, b []E) int) [][]E {
	result := make([][]E, len(l))
	for i, inner := range l {
		result[i] = slices.Clone(inner)
	}
	slices.SortFunc(result, compare)
	return result
}
