package sequenced

import (
	"bitemporal/api"
	"bitemporal/coalesce"
)

// RunInParts returns the facts of Run as if no canonical form contained a row more than most times at once.
func RunInParts(p api.Plan, in []api.Relation, most int) []api.Fact {
	return coalesce.Bag(evaluation{in, always(), most}.result(p).Facts)
}

// ChangesInParts returns what Changes does as if no canonical form contained a row more than most times at once.
func ChangesInParts(p api.Plan, in []api.Relation, most int) []int {
	return changes(evaluation{in, always(), most}.result(p).Facts)
}
