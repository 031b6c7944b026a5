package nonseq

import (
	"bitemporal/api"
	"bitemporal/period"
)

// A rule decides about the clauses of one kind: whether they select a version that was believed during a valid period.
type rule struct {
	selects func(system api.Period, c api.Clause) bool
}

// rules returns the rules by the kinds of clauses.
func rules() []rule {
	return []rule{
		api.ClauseCurrent: {func(system api.Period, _ api.Clause) bool { return system.To == api.Forever }},
		api.ClauseAsOf:    {func(system api.Period, c api.Clause) bool { return period.Contains(system, c.From) }},
		api.ClauseFromTo: {func(system api.Period, c api.Clause) bool {
			return c.From < c.To && system.From < c.To && c.From < system.To
		}},
		api.ClauseBetween: {func(system api.Period, c api.Clause) bool {
			return c.From <= c.To && system.From <= c.To && c.From < system.To
		}},
		api.ClauseAll: {func(api.Period, api.Clause) bool { return true }},
	}
}

// selected returns the versions that a clause selects, with the rows of l.
func selected(l []api.Version, c api.Clause) []api.Version {
	known := rules()
	if c.Kind < 0 || c.Kind >= len(known) {
		return nil
	}
	var chosen []api.Version
	for _, v := range l {
		if period.Valid(v.System) && known[c.Kind].selects(v.System, c) {
			chosen = append(chosen, v)
		}
	}
	return chosen
}
