package delta

import (
	"cmp"
	"iter"
	"slices"

	"bitemporal/api"
	"bitemporal/itree"
	"bitemporal/period"
	"bitemporal/tuple"
)

// Check reports whether versions can be the history of a table.
func Check(l []api.Version) api.Errno {
	for i, v := range l {
		if !isSound(v) {
			return api.ErrInvalid
		}
		if i == 0 {
			continue
		}
		if err := succession(l[i-1], v); err != api.OK {
			return err
		}
	}
	for group := range identities(l) {
		if !areDisjoint(group) {
			return api.ErrCorrupt
		}
	}
	return api.OK
}

// isSound reports whether a version can be part of a history. As By is at least 1, an Until that is greater is not negative.
func isSound(v api.Version) bool {
	if v.ID < 1 || v.By < 1 || v.Schema < 0 || !period.Valid(v.Valid) || !period.Valid(v.System) {
		return false
	}
	return v.Until == 0 || v.Until > v.By && v.System.To != api.Forever
}

// succession returns the error of a version and the next one.
func succession(v, next api.Version) api.Errno {
	order := cmp.Or(cmp.Compare(v.ID, next.ID), cmp.Compare(v.System.From, next.System.From), cmp.Compare(v.Valid.From, next.Valid.From))
	switch {
	case order >= 0:
		return api.ErrOrder
	case v.By > next.By, v.ID == next.ID && !isSame(v, next):
		return api.ErrCorrupt
	}
	return api.OK
}

// isSame reports whether two versions can be pieces of one.
func isSame(v, w api.Version) bool {
	return v.Schema == w.Schema && v.By == w.By && v.Until == w.Until && tuple.Equal(v.Row, w.Row)
}

// identities yields, for each identity, the versions that have it. The versions must be in order.
func identities(l []api.Version) iter.Seq[[]api.Version] {
	return func(yield func(group []api.Version) bool) {
		for rest := l; len(rest) > 0; {
			end := 1
			for end < len(rest) && rest[end].ID == rest[0].ID {
				end++
			}
			if !yield(rest[:end]) {
				return
			}
			rest = rest[end:]
		}
	}
}

// areDisjoint reports whether no two versions have a point of both times in common. The versions must be valid, and in ascending order of System.From.
func areDisjoint(l []api.Version) bool {
	ended := slices.SortedFunc(slices.Values(l), func(v, w api.Version) int { return cmp.Compare(v.System.To, w.System.To) })
	believed := itree.New()
	for _, v := range l {
		for ; ended[0].System.To <= v.System.From; ended = ended[1:] {
			believed.Remove(ended[0].Valid, 0)
		}
		if len(believed.Overlap(v.Valid)) > 0 {
			return false
		}
		believed.Add(v.Valid, 0)
	}
	return true
}
