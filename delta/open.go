package delta

import (
	"iter"
	"slices"

	"bitemporal/api"
	"bitemporal/period"
)

// openVersions yields the open versions of l with their places.
func openVersions(l []api.Version) iter.Seq2[int, api.Version] {
	return func(yield func(i int, v api.Version) bool) {
		for i, v := range l {
			if period.Valid(v.System) && v.System.To == api.Forever && !yield(i, v) {
				return
			}
		}
	}
}

// cloned returns versions with rows of their own.
func cloned(l []api.Version) []api.Version {
	result := slices.Clone(l)
	for i, v := range result {
		result[i].Row = slices.Clone(v.Row)
	}
	return result
}
