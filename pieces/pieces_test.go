package pieces_test

import (
	"slices"
	"testing"

	"bitemporal/api"
	"bitemporal/pieces"
	"bitemporal/steps"
)

func piece(from, to, n int) api.Counted {
	return api.Counted{Period: api.Period{From: from, To: to}, N: n}
}

func TestOf(t *testing.T) {
	for i, x := range []struct {
		l    []api.Step
		want []api.Counted
	}{
		{nil, nil},
		{[]api.Step{{From: 0, N: -3}}, []api.Counted{piece(0, api.Forever, -3)}},
		{[]api.Step{{From: 0, N: 0}, {From: 2, N: 5}, {From: 7, N: 4}}, []api.Counted{piece(0, 2, 0), piece(2, 7, 5), piece(7, api.Forever, 4)}},
		{[]api.Step{{From: 0, N: 0}, {From: api.Forever - 1, N: 1}}, []api.Counted{piece(0, api.Forever-1, 0), piece(api.Forever-1, api.Forever, 1)}},
	} {
		got := pieces.Of(x.l)
		if !slices.Equal(got, x.want) {
			t.Errorf("case %d: %v, want %v", i, got, x.want)
		}
		if len(x.l) > 0 && !slices.Equal(steps.Of(got), x.l) {
			t.Errorf("case %d: the pieces make another function", i)
		}
	}
}
