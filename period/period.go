// Package period is layer 1: see shared/doc/01-period.md.
package period

import "bitemporal/api"

// Valid reports whether p is a valid period.
func Valid(p api.Period) bool {
	return 0 <= p.From && p.From < p.To && p.To <= api.Forever
}

// Contains reports whether p is valid and the instant t lies in it.
func Contains(p api.Period, t int) bool {
	return Valid(p) && p.From <= t && t < p.To
}

// Covers reports whether p and q are valid and every instant of q lies in p.
func Covers(p, q api.Period) bool {
	return Valid(p) && Valid(q) && p.From <= q.From && q.To <= p.To
}

// Overlaps reports whether p and q are valid and have an instant in common.
func Overlaps(p, q api.Period) bool {
	return Valid(p) && Valid(q) && p.From < q.To && q.From < p.To
}

// Adjacent reports whether p and q are valid and one of them ends where the other begins.
func Adjacent(p, q api.Period) bool {
	return Valid(p) && Valid(q) && (p.To == q.From || q.To == p.From)
}

// Intersect returns the instants that p and q have in common, and whether there are any.
func Intersect(p, q api.Period) (api.Period, bool) {
	if !Overlaps(p, q) {
		return api.Period{}, false
	}
	return api.Period{From: max(p.From, q.From), To: min(p.To, q.To)}, true
}

// Merge returns the union of two periods that overlap or are adjacent, and whether they do.
func Merge(p, q api.Period) (api.Period, bool) {
	if !Overlaps(p, q) && !Adjacent(p, q) {
		return api.Period{}, false
	}
	return api.Period{From: min(p.From, q.From), To: max(p.To, q.To)}, true
}

// Subtract returns the instants of p that do not lie in q, as zero to two periods in ascending order.
func Subtract(p, q api.Period) []api.Period {
	if !Valid(p) {
		return nil
	}
	common, overlap := Intersect(p, q)
	if !overlap {
		return []api.Period{p}
	}
	pieces := [2]api.Period{{From: p.From, To: common.From}, {From: common.To, To: p.To}}
	var rest []api.Period
	for _, piece := range pieces {
		if Valid(piece) {
			rest = append(rest, piece)
		}
	}
	return rest
}

// Compare orders periods by From, then by To; they need not be valid.
func Compare(p, q api.Period) int {
	switch {
	case p == q:
		return 0
	case p.From < q.From || p.From == q.From && p.To < q.To:
		return -1
	}
	return 1
}
