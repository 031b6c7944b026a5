package allen

import "bitemporal/api"

// set is a set of relations: the bit with the number of each member is 1.
type set struct{ bits uint16 }

// setOf returns the set of the relations of a list.
func setOf(rels []int) set {
	var s set
	for _, rel := range rels {
		s = s.with(rel)
	}
	return s
}

// allRelations returns the set that excludes nothing.
func allRelations() set {
	return set{1<<api.Relations - 1}
}

func (s set) with(rel int) set {
	return set{s.bits | 1<<rel}
}

func (s set) has(rel int) bool {
	return s.bits&(1<<rel) != 0
}

func (s set) union(o set) set {
	return set{s.bits | o.bits}
}

func (s set) intersect(o set) set {
	return set{s.bits & o.bits}
}

// list returns the members in ascending order.
func (s set) list() []int {
	var l []int
	for rel := range api.Relations {
		if s.has(rel) {
			l = append(l, rel)
		}
	}
	return l
}

// inverse returns the inverses of the members.
func (s set) inverse() set {
	var o set
	for _, rel := range s.list() {
		o = o.with(Inverse(rel))
	}
	return o
}
