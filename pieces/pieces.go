// Package pieces divides step functions (package steps) into the periods at which they are constant, for the layers that go through them.
package pieces

import "bitemporal/api"

// Of returns the period of each step, from its instant to the next step, with its value.
func Of(l []api.Step) []api.Counted {
	result := make([]api.Counted, len(l))
	for i, s := range l {
		to := api.Forever
		if i+1 < len(l) {
			to = l[i+1].From
		}
		result[i] = api.Counted{Period: api.Period{From: s.From, To: to}, N: s.N}
	}
	return result
}
