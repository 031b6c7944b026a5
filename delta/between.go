package delta

import (
	"cmp"
	"slices"

	"bitemporal/api"
	"bitemporal/coalesce"
	"bitemporal/rowkey"
)

// factKey is what facts have in common exactly if they have the same row and period.
type factKey struct {
	row   string
	valid api.Period
}

func keyOf(row []api.Value, valid api.Period) factKey {
	return factKey{rowkey.Of(row), valid}
}

// Between returns the open versions to close and the facts to open for a new belief.
func Between(l []api.Version, to []api.Fact) ([]int, []api.Fact) {
	wanted := coalesce.Bag(to)
	left := map[factKey]int{}
	for _, f := range wanted {
		left[keyOf(f.Row, f.Valid)]++
	}
	take := func(row []api.Value, valid api.Period) bool {
		key := keyOf(row, valid)
		if left[key] == 0 {
			return false
		}
		left[key]--
		return true
	}
	var ids []int
	for _, v := range byIdentity(l) {
		if !take(v.Row, v.Valid) {
			ids = append(ids, v.ID)
		}
	}
	var open []api.Fact
	for _, f := range wanted {
		if take(f.Row, f.Valid) {
			open = append(open, f)
		}
	}
	return ids, open
}

// Size returns the number of versions that are closed and opened.
func Size(l []api.Version, to []api.Fact) int {
	ids, open := Between(l, to)
	return len(ids) + len(open)
}

// byIdentity returns the open versions of l in ascending order of their identities.
func byIdentity(l []api.Version) []api.Version {
	var open []api.Version
	for _, v := range openVersions(l) {
		open = append(open, v)
	}
	slices.SortFunc(open, func(v, w api.Version) int { return cmp.Compare(v.ID, w.ID) })
	return open
}
