package steps

import "bitemporal/api"

// mostLevels is the greatest value whose periods Levels returns.
const mostLevels = 1 << 20

// layers returns the periods of the levels of l, in no order, each with the number of levels that it belongs to.
func layers(l []api.Step) []api.Counted {
	var open, closed []api.Counted
	level := 0
	for _, s := range l {
		next := min(max(s.N, 0), mostLevels)
		// The numbers of the open layers always add up to the level, so that there is one to close.
		for level > next {
			top := &open[len(open)-1]
			ending := min(top.N, level-next)
			closed = append(closed, api.Counted{Period: api.Period{From: top.Period.From, To: s.From}, N: ending})
			top.N -= ending
			level -= ending
			if top.N == 0 {
				open = open[:len(open)-1]
			}
		}
		if level < next {
			open = append(open, api.Counted{Period: api.Period{From: s.From, To: api.Forever}, N: next - level})
			level = next
		}
	}
	return append(closed, open...)
}
