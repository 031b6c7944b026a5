package clock

import "bitemporal/api"

// valid reports whether a clock is valid. The zero clock is.
func valid(c api.Clock) bool {
	return 0 <= c.Wall && c.Wall <= c.Last && c.Last < api.Forever
}

// isInstant reports whether t is an instant; these are also the readings of the wall clock.
func isInstant(t int) bool {
	return 0 <= t && t < api.Forever
}

// stamp returns the stamp of the commit to which a clock has assigned its last time.
func stamp(c api.Clock) api.Stamp {
	return api.Stamp{Time: c.Last, Wall: c.Wall}
}

// findLast returns the last stamp that satisfies a condition, and whether there is one.
func findLast(l []api.Stamp, is func(s api.Stamp) bool) (api.Stamp, bool) {
	for i := len(l) - 1; i >= 0; i-- {
		if is(l[i]) {
			return l[i], true
		}
	}
	return api.Stamp{}, false
}

// shownAfter returns the period of a stamp, which is followed by others, if the wall clock may have shown a reading in it, and otherwise the zero period.
func shownAfter(s api.Stamp, following []api.Stamp, wall int) api.Period {
	if len(following) == 0 {
		if wall < s.Wall {
			return api.Period{}
		}
		return api.Period{From: s.Time, To: api.Forever}
	}
	next := following[0]
	since, until := wall >= s.Wall, wall <= next.Wall
	// A clock that steps back shows the readings since the stamp before the step, and those until the next stamp after it.
	if since && until || next.Wall < s.Wall && (since || until) {
		return api.Period{From: s.Time, To: next.Time}
	}
	return api.Period{}
}
