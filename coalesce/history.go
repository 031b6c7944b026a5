package coalesce

import (
	"slices"

	"bitemporal/api"
	"bitemporal/period"
	"bitemporal/rowkey"
	"bitemporal/steps"
	"bitemporal/tuple"
)

// history is a row with the periods of its facts, of which there is at least one.
type history struct {
	row     []api.Value
	periods []api.Period
}

// collected returns the histories of the rows of facts, in ascending order of the rows.
func collected(l []api.Fact) []history {
	var histories []history
	numbers := map[string]int{}
	for _, f := range l {
		if !period.Valid(f.Valid) {
			continue
		}
		key := rowkey.Of(f.Row)
		n, known := numbers[key]
		if !known {
			n = len(histories)
			numbers[key] = n
			histories = append(histories, history{row: f.Row})
		}
		histories[n].periods = append(histories[n].periods, f.Valid)
	}
	slices.SortFunc(histories, func(x, y history) int { return tuple.Compare(x.row, y.row) })
	return histories
}

// facts returns, for each history, its row with each of the periods that its own periods become.
func facts(l []history, become func(l []api.Period) []api.Period) []api.Fact {
	var result []api.Fact
	for _, h := range l {
		for _, p := range become(h.periods) {
			result = append(result, api.Fact{Row: slices.Clone(h.row), Valid: p})
		}
	}
	return result
}

// counts returns the step function of the numbers of periods that contain an instant.
func counts(l []api.Period) []api.Step {
	counted := make([]api.Counted, len(l))
	for i, p := range l {
		counted[i] = api.Counted{Period: p, N: 1}
	}
	return steps.Of(counted)
}
