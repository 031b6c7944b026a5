package allen_test

import (
	"math"
	"testing"

	"bitemporal/allen"
	"bitemporal/api"
)

// conditions returns the conditions of the chapter, in the order of the relations.
func conditions() []func(p, q api.Period) bool {
	return []func(p, q api.Period) bool{
		func(p, q api.Period) bool { return p.To < q.From },
		func(p, q api.Period) bool { return p.To == q.From },
		func(p, q api.Period) bool { return p.From < q.From && q.From < p.To && p.To < q.To },
		func(p, q api.Period) bool { return p.From == q.From && p.To < q.To },
		func(p, q api.Period) bool { return q.From < p.From && p.To < q.To },
		func(p, q api.Period) bool { return p.To == q.To && q.From < p.From },
		func(p, q api.Period) bool { return p == q },
		func(p, q api.Period) bool { return p.To == q.To && p.From < q.From },
		func(p, q api.Period) bool { return p.From < q.From && q.To < p.To },
		func(p, q api.Period) bool { return p.From == q.From && q.To < p.To },
		func(p, q api.Period) bool { return q.From < p.From && p.From < q.To && q.To < p.To },
		func(p, q api.Period) bool { return q.To == p.From },
		func(p, q api.Period) bool { return q.To < p.From },
	}
}

// small lists the valid periods with bounds up to 6.
func small() []api.Period {
	var l []api.Period
	for from := 0; from <= 6; from++ {
		for to := from + 1; to <= 6; to++ {
			l = append(l, api.Period{From: from, To: to})
		}
	}
	return l
}

// invalid lists periods that are not valid.
func invalid() []api.Period {
	return []api.Period{
		{}, {From: 3, To: 3}, {From: 5, To: 3}, {From: -1, To: 3}, {From: 3, To: api.Forever + 1},
		{From: api.Forever, To: api.Forever}, {From: math.MinInt, To: math.MaxInt}, {From: math.MaxInt, To: math.MinInt},
	}
}

// strange lists numbers that are not relations.
func strange() []int {
	return []int{-1, -13, 13, 14, 64, 1 << 32, math.MinInt, math.MaxInt}
}

func TestRelation(t *testing.T) {
	for _, p := range small() {
		for _, q := range small() {
			holding := 0
			for rel, condition := range conditions() {
				want := condition(p, q)
				if want {
					holding++
					if got, is := allen.Relation(p, q); !is || got != rel {
						t.Error(p, q, rel, got, is)
					}
				}
				if got := allen.Holds(rel, p, q); got != want {
					t.Error(p, q, rel, got)
				}
			}
			if holding != 1 {
				t.Error(p, q, holding)
			}
		}
	}
}

func TestRelationAtTheEndOfTime(t *testing.T) {
	open := api.Period{From: 4, To: api.Forever}
	for _, c := range []struct {
		p    api.Period
		want int
	}{
		{api.Period{From: 0, To: 3}, api.Before},
		{api.Period{From: 0, To: 4}, api.Meets},
		{api.Period{From: 0, To: 5}, api.Overlaps},
		{api.Period{From: 4, To: 5}, api.Starts},
		{api.Period{From: 5, To: 6}, api.During},
		{api.Period{From: 5, To: api.Forever - 1}, api.During},
		{api.Period{From: api.Forever - 1, To: api.Forever}, api.Finishes},
		{api.Period{From: 4, To: api.Forever}, api.Equals},
		{api.Period{From: 0, To: api.Forever}, api.FinishedBy},
	} {
		if got, is := allen.Relation(c.p, open); !is || got != c.want {
			t.Error(c, got, is)
		}
	}
}

func TestRelationOfInvalidPeriods(t *testing.T) {
	valid := api.Period{From: 3, To: 5}
	for _, p := range invalid() {
		for _, pair := range [][2]api.Period{{p, valid}, {valid, p}, {p, p}} {
			if got, is := allen.Relation(pair[0], pair[1]); got != 0 || is {
				t.Error(pair, got, is)
			}
			for rel := range api.Relations {
				if allen.Holds(rel, pair[0], pair[1]) {
					t.Error(pair, rel)
				}
			}
		}
	}
}

func TestHoldsWithoutARelation(t *testing.T) {
	for _, rel := range strange() {
		for _, p := range small() {
			if allen.Holds(rel, p, api.Period{From: 2, To: 4}) {
				t.Error(rel, p)
			}
		}
	}
}

func TestInverse(t *testing.T) {
	pairs := [][2]int{
		{api.Before, api.After}, {api.Meets, api.MetBy}, {api.Overlaps, api.OverlappedBy}, {api.Starts, api.StartedBy},
		{api.During, api.Contains}, {api.Finishes, api.FinishedBy}, {api.Equals, api.Equals},
	}
	for _, pair := range pairs {
		if allen.Inverse(pair[0]) != pair[1] || allen.Inverse(pair[1]) != pair[0] {
			t.Error(pair, allen.Inverse(pair[0]), allen.Inverse(pair[1]))
		}
	}
	for _, rel := range strange() {
		if got := allen.Inverse(rel); got != -1 {
			t.Error(rel, got)
		}
	}
}

func TestInverseHoldsInTheOtherDirection(t *testing.T) {
	for _, p := range small() {
		for _, q := range small() {
			there, _ := allen.Relation(p, q)
			back, _ := allen.Relation(q, p)
			if allen.Inverse(there) != back || !allen.Holds(allen.Inverse(there), q, p) {
				t.Error(p, q, there, back)
			}
		}
	}
}

func TestName(t *testing.T) {
	want := []string{
		"BEFORE", "MEETS", "OVERLAPS", "STARTS", "DURING", "FINISHES", "EQUALS",
		"FINISHEDBY", "CONTAINS", "STARTEDBY", "OVERLAPPEDBY", "METBY", "AFTER",
	}
	for rel, name := range want {
		if got := allen.Name(rel); got != name {
			t.Error(rel, got)
		}
		if got := allen.Find(name); got != rel {
			t.Error(name, got)
		}
	}
	for _, rel := range strange() {
		if got := allen.Name(rel); got != "" {
			t.Error(rel, got)
		}
	}
}

func TestFindNeedsTheExactKeyword(t *testing.T) {
	for _, name := range []string{
		"", "before", "Before", "BEFOR", "BEFOREE", " BEFORE", "BEFORE ", "EQUAL", "FINISHED BY", "MET_BY", "AFTER\n", "AFTER\x00", "OVERLAPPED", "12", "nonsense",
	} {
		if got := allen.Find(name); got != -1 {
			t.Errorf("%q: %d", name, got)
		}
	}
}
