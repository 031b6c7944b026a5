package allen_test

import (
	"slices"
	"testing"

	"bitemporal/allen"
	"bitemporal/api"
)

// occurring returns, for each pair of relations, which relations occur between small periods, by the chapter's conditions alone.
func occurring() [api.Relations][api.Relations][api.Relations]bool {
	var between [21][21]int
	l := small()
	for i, p := range l {
		for j, q := range l {
			between[i][j] = slices.IndexFunc(conditions(), func(holds func(p, q api.Period) bool) bool { return holds(p, q) })
		}
	}
	var seen [api.Relations][api.Relations][api.Relations]bool
	for i := range l {
		for j := range l {
			for k := range l {
				seen[between[i][j]][between[j][k]][between[i][k]] = true
			}
		}
	}
	return seen
}

func TestCompose(t *testing.T) {
	every := make([]int, api.Relations)
	for rel := range every {
		every[rel] = rel
	}
	for _, c := range []struct {
		a, b int
		want []int
	}{
		{api.Meets, api.Meets, []int{api.Before}},
		{api.During, api.Before, []int{api.Before}},
		{api.Starts, api.StartedBy, []int{api.Starts, api.Equals, api.StartedBy}},
		{api.Before, api.After, every},
		{api.During, api.Contains, every},
		{api.Contains, api.During, []int{api.Overlaps, api.Starts, api.During, api.Finishes, api.Equals, api.FinishedBy, api.Contains, api.StartedBy, api.OverlappedBy}},
		{api.Overlaps, api.Overlaps, []int{api.Before, api.Meets, api.Overlaps}},
		{api.Meets, api.MetBy, []int{api.Finishes, api.Equals, api.FinishedBy}},
		{api.After, api.During, []int{api.During, api.Finishes, api.OverlappedBy, api.MetBy, api.After}},
		{api.FinishedBy, api.OverlappedBy, []int{api.Contains, api.StartedBy, api.OverlappedBy}},
	} {
		if got := allen.Compose(c.a, c.b); !slices.Equal(got, c.want) {
			t.Error(c, got)
		}
	}
}

func TestComposeReturnsWhatOccurs(t *testing.T) {
	seen := occurring()
	entries := 0
	for a := range api.Relations {
		for b := range api.Relations {
			var want []int
			for c := range api.Relations {
				if seen[a][b][c] {
					want = append(want, c)
				}
			}
			if got := allen.Compose(a, b); !slices.Equal(got, want) {
				t.Error(a, b, got, want)
			}
			entries += len(want)
		}
	}
	// Allen's table is known to have 409 entries.
	if entries != 409 {
		t.Error(entries)
	}
}

func TestComposeWithEquals(t *testing.T) {
	for rel := range api.Relations {
		if got := allen.Compose(rel, api.Equals); !slices.Equal(got, []int{rel}) {
			t.Error(rel, got)
		}
		if got := allen.Compose(api.Equals, rel); !slices.Equal(got, []int{rel}) {
			t.Error(rel, got)
		}
	}
}

func TestComposeInvertsBackwards(t *testing.T) {
	for a := range api.Relations {
		for b := range api.Relations {
			var want []int
			for _, rel := range allen.Compose(a, b) {
				want = append(want, allen.Inverse(rel))
			}
			slices.Sort(want)
			if got := allen.Compose(allen.Inverse(b), allen.Inverse(a)); !slices.Equal(got, want) {
				t.Error(a, b, got, want)
			}
		}
	}
}

func TestComposeWithoutARelation(t *testing.T) {
	for _, rel := range strange() {
		for good := range api.Relations {
			if got := allen.Compose(rel, good); len(got) != 0 {
				t.Error(rel, good, got)
			}
			if got := allen.Compose(good, rel); len(got) != 0 {
				t.Error(good, rel, got)
			}
		}
		if got := allen.Compose(rel, rel); len(got) != 0 {
			t.Error(rel, got)
		}
	}
}

func TestComposeReturnsNewMemory(t *testing.T) {
	clear(allen.Compose(api.Starts, api.StartedBy))
	if got := allen.Compose(api.Starts, api.StartedBy); !slices.Equal(got, []int{api.Starts, api.Equals, api.StartedBy}) {
		t.Error(got)
	}
}
