package region

import (
	"cmp"
	"slices"

	"bitemporal/api"
	"bitemporal/period"
	"bitemporal/span"
)

// bound is a system time at which a valid rectangle of the first or the second of two lists begins or ends, with the valid time of that rectangle.
type bound struct {
	at, list int
	begins   bool
	valid    api.Period
}

// strips calls visit, in ascending order, for each period from one system time at which a valid rectangle of two lists begins or ends to the next one, with the slices of both lists during that period.
func strips(a, b []api.Rect, visit func(system api.Period, inA, inB []api.Period)) {
	bounds := slices.Concat(boundsOf(a, 0), boundsOf(b, 1))
	slices.SortFunc(bounds, func(x, y bound) int { return cmp.Compare(x.at, y.at) })
	var open [2][]api.Period
	for i, next := range bounds {
		if i > 0 && bounds[i-1].at < next.at {
			visit(api.Period{From: bounds[i-1].at, To: next.at}, joined(open[0]), joined(open[1]))
		}
		open[next.list] = changed(open[next.list], next)
	}
}

// boundsOf returns the bounds of the valid rectangles of a list, in no order.
func boundsOf(l []api.Rect, list int) []bound {
	var bounds []bound
	for _, r := range l {
		if period.Valid(r.Valid) && period.Valid(r.System) {
			bounds = append(bounds, bound{r.System.From, list, true, r.Valid}, bound{r.System.To, list, false, r.Valid})
		}
	}
	return bounds
}

// changed returns the valid times of the open rectangles after a bound. They are kept in ascending order, so that a slice is found without sorting them again for every strip.
func changed(open []api.Period, b bound) []api.Period {
	at, _ := slices.BinarySearchFunc(open, b.valid, period.Compare)
	if b.begins {
		return slices.Insert(open, at, b.valid)
	}
	return slices.Delete(open, at, at+1)
}

// joined returns the span of valid periods in ascending order.
func joined(l []api.Period) []api.Period {
	var result []api.Period
	for _, p := range l {
		last := len(result) - 1
		if last < 0 {
			result = append(result, p)
		} else if whole, touch := period.Merge(result[last], p); touch {
			result[last] = whole
		} else {
			result = append(result, p)
		}
	}
	return result
}

// combine returns the region whose slice at every system time is an operation on the slices of a and b. The operation on two empty slices must be empty.
func combine(a, b []api.Rect, operation func(inA, inB []api.Period) []api.Period) []api.Rect {
	var result []api.Rect
	var last []api.Period
	strips(a, b, func(system api.Period, inA, inB []api.Period) {
		slice := operation(inA, inB)
		if slices.Equal(slice, last) {
			extend(result[len(result)-len(slice):], system.To)
		} else {
			result = append(result, strip(slice, system)...)
		}
		last = slice
	})
	return result
}

// strip returns the rectangles of a slice during a period of system time.
func strip(slice []api.Period, system api.Period) []api.Rect {
	rects := make([]api.Rect, len(slice))
	for i, valid := range slice {
		rects[i] = api.Rect{Valid: valid, System: system}
	}
	return rects
}

// extend lets rectangles end at a later system time.
func extend(l []api.Rect, to int) {
	for i := range l {
		l[i].System.To = to
	}
}

// together returns the rectangles at the beginning of l that have the same system time.
func together(l []api.Rect) []api.Rect {
	other := slices.IndexFunc(l, func(r api.Rect) bool { return r.System != l[0].System })
	if other < 0 {
		return l
	}
	return l[:other]
}

// follows reports whether the rectangles of one strip can follow those of the strip before (none for the first one) in a region.
func follows(before, next []api.Rect) bool {
	system, slice := next[0].System, validTimes(next)
	if !period.Valid(system) || !span.Valid(slice) {
		return false
	}
	if len(before) == 0 || before[0].System.To < system.From {
		return true
	}
	return before[0].System.To == system.From && !slices.Equal(slice, validTimes(before))
}

func validTimes(l []api.Rect) []api.Period {
	valid := make([]api.Period, len(l))
	for i, r := range l {
		valid[i] = r.Valid
	}
	return valid
}
