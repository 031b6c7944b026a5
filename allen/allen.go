// Package allen is layer 2: see shared/doc/02-allen.md.
package allen

import (
	"cmp"

	"bitemporal/api"
	"bitemporal/period"
)

// names has the keyword of each relation.
var names = [api.Relations]string{
	"BEFORE", "MEETS", "OVERLAPS", "STARTS", "DURING", "FINISHES", "EQUALS",
	"FINISHEDBY", "CONTAINS", "STARTEDBY", "OVERLAPPEDBY", "METBY", "AFTER",
}

// Relation returns the relation of p to q, and whether both are valid.
func Relation(p, q api.Period) (int, bool) {
	switch {
	case !period.Valid(p) || !period.Valid(q):
		return 0, false
	case p.To < q.From:
		return api.Before, true
	case p.To == q.From:
		return api.Meets, true
	case q.To == p.From:
		return api.MetBy, true
	case q.To < p.From:
		return api.After, true
	}
	return overlapping(p, q), true
}

// overlapping returns the relation of p to q if they have an instant in common.
func overlapping(p, q api.Period) int {
	// Rows compare the beginnings, columns the ends: less, equal, greater.
	relations := [3][3]int{
		{api.Overlaps, api.FinishedBy, api.Contains},
		{api.Starts, api.Equals, api.StartedBy},
		{api.During, api.Finishes, api.OverlappedBy},
	}
	return relations[1+cmp.Compare(p.From, q.From)][1+cmp.Compare(p.To, q.To)]
}

// Holds reports whether p and q are valid and p is in a relation to q.
func Holds(rel int, p, q api.Period) bool {
	actual, valid := Relation(p, q)
	return valid && actual == rel
}

// Inverse returns the relation of q to p, given that of p to q; -1 if there is no such relation.
func Inverse(rel int) int {
	if !isRelation(rel) {
		return -1
	}
	return api.Relations - 1 - rel
}

// Name returns the keyword of a relation, or the empty string.
func Name(rel int) string {
	if !isRelation(rel) {
		return ""
	}
	return names[rel]
}

// Find returns the relation with a keyword, or -1.
func Find(name string) int {
	for rel, keyword := range names {
		if keyword == name {
			return rel
		}
	}
	return -1
}

func isRelation(rel int) bool {
	return 0 <= rel && rel < api.Relations
}
