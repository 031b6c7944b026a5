package value

import "bitemporal/api"

// Not negates a truth value.
func Not(a int) int {
	switch a {
	case api.False:
		return api.True
	case api.True:
		return api.False
	}
	return api.Unknown
}

// And is the conjunction of truth values.
func And(a, b int) int { return combined(api.False, a, b) }

// Or is the disjunction of truth values.
func Or(a, b int) int { return combined(api.True, a, b) }

// combined returns the truth value that decides alone if it is one of l, its negation if all of l are that, and otherwise Unknown.
func combined(decisive int, l ...int) int {
	result := Not(decisive)
	for _, t := range l {
		if t == decisive {
			return decisive
		}
		if t != Not(decisive) {
			result = api.Unknown
		}
	}
	return result
}

// Truth returns the truth value of a boolean value.
func Truth(v api.Value) int {
	switch {
	case v == Bool(true):
		return api.True
	case v == Bool(false):
		return api.False
	}
	return api.Unknown
}

// Of returns the value of a truth value: a null for Unknown.
func Of(t int) api.Value {
	switch t {
	case api.True:
		return Bool(true)
	case api.False:
		return Bool(false)
	}
	return Null()
}

// truthOf returns the truth value of a condition that is known.
func truthOf(holds bool) int {
	if holds {
		return api.True
	}
	return api.False
}
