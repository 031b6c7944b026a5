package allen_test

import (
	"math"
	"reflect"
	"slices"
	"testing"

	"bitemporal/allen"
	"bitemporal/api"
)

// random returns a function that continues a fixed sequence of numbers from 0 to n - 1.
func random(seed uint64) func(n int) int {
	return func(n int) int {
		seed = seed*6364136223846793005 + 1442695040888963407
		return int(seed >> 33 % uint64(n))
	}
}

// someConstraints returns constraints between n periods that permit most of the relations.
func someConstraints(next func(n int) int, n int) []api.Constraint {
	var l []api.Constraint
	for range next(2 * n) {
		c := api.Constraint{A: next(n), B: next(n)}
		size := 1 + next(api.Relations)
		for range size {
			c.Rels = append(c.Rels, next(api.Relations))
		}
		if c.A == c.B && next(4) > 0 {
			c.Rels = append(c.Rels, api.Equals)
		}
		l = append(l, c)
	}
	return l
}

// members is a set of relations for each ordered pair of periods.
type members [][][api.Relations]bool

// permits returns what constraints permit between n periods.
func permits(n int, l []api.Constraint) members {
	m := make(members, n)
	for i := range m {
		m[i] = make([][api.Relations]bool, n)
		for j := range m[i] {
			for rel := range api.Relations {
				m[i][j][rel] = i != j || rel == api.Equals
			}
		}
	}
	for _, c := range l {
		for rel := range api.Relations {
			if !slices.Contains(c.Rels, rel) {
				m[c.A][c.B][rel] = false
				m[c.B][c.A][12-rel] = false
			}
		}
	}
	return m
}

// follows reports whether some members of both sets have rel in their composition.
func follows(seen *[api.Relations][api.Relations][api.Relations]bool, a, b [api.Relations]bool, rel int) bool {
	for first := range api.Relations {
		for second := range api.Relations {
			if a[first] && b[second] && seen[first][second][rel] {
				return true
			}
		}
	}
	return false
}

// excluded returns a member that contradicts path consistency, as i, j and the relation.
func (m members) excluded(seen *[api.Relations][api.Relations][api.Relations]bool) (int, int, int, bool) {
	for i := range m {
		for j := range m {
			for k := range m {
				for rel := range api.Relations {
					if m[i][j][rel] && (!follows(seen, m[i][k], m[k][j], rel) || !m[j][i][12-rel]) {
						return i, j, rel, true
					}
				}
			}
		}
	}
	return 0, 0, 0, false
}

// tightened removes one member after the other until the network is path-consistent.
func tightened(seen *[api.Relations][api.Relations][api.Relations]bool, n int, l []api.Constraint) ([]api.Constraint, bool) {
	m := permits(n, l)
	for {
		i, j, rel, is := m.excluded(seen)
		if !is {
			break
		}
		m[i][j][rel] = false
	}
	var out []api.Constraint
	for i := range n {
		for j := range n {
			var rels []int
			for rel, is := range m[i][j] {
				if is {
					rels = append(rels, rel)
				}
			}
			if rels == nil {
				return nil, false
			}
			if i < j {
				out = append(out, api.Constraint{A: i, B: j, Rels: rels})
			}
		}
	}
	return out, true
}

// same compares constraints; an empty list may be nil or not.
func same(a, b []api.Constraint) bool {
	return slices.EqualFunc(a, b, func(c, d api.Constraint) bool {
		return c.A == d.A && c.B == d.B && slices.Equal(c.Rels, d.Rels)
	})
}

func allRels() []int {
	return []int{0, 1, 2, 3, 4, 5, 6, 7, 8, 9, 10, 11, 12}
}

func TestTighten(t *testing.T) {
	for _, c := range []struct {
		name string
		n    int
		l    []api.Constraint
		want []api.Constraint
	}{
		{"a chain", 3, []api.Constraint{{A: 0, B: 1, Rels: []int{api.Before}}, {A: 1, B: 2, Rels: []int{api.Before}}},
			[]api.Constraint{{A: 0, B: 1, Rels: []int{api.Before}}, {A: 0, B: 2, Rels: []int{api.Before}}, {A: 1, B: 2, Rels: []int{api.Before}}}},
		{"a chain from the last to the first", 3, []api.Constraint{{A: 2, B: 1, Rels: []int{api.Meets}}, {A: 1, B: 0, Rels: []int{api.Starts}}},
			[]api.Constraint{{A: 0, B: 1, Rels: []int{api.StartedBy}}, {A: 0, B: 2, Rels: []int{api.MetBy}}, {A: 1, B: 2, Rels: []int{api.MetBy}}}},
		{"one period", 1, nil, nil},
		{"one period that equals itself", 1, []api.Constraint{{A: 0, B: 0, Rels: []int{api.Before, api.Equals}}}, nil},
		{"no constraint", 2, nil, []api.Constraint{{A: 0, B: 1, Rels: allRels()}}},
		{"a descending list with repetitions", 2, []api.Constraint{{A: 0, B: 1, Rels: []int{api.After, api.Equals, api.Before, api.After}}},
			[]api.Constraint{{A: 0, B: 1, Rels: []int{api.Before, api.Equals, api.After}}}},
		{"the opposite pair", 2, []api.Constraint{{A: 1, B: 0, Rels: []int{api.Before, api.During, api.Equals, api.MetBy}}},
			[]api.Constraint{{A: 0, B: 1, Rels: []int{api.Meets, api.Equals, api.Contains, api.After}}}},
		{"several constraints", 2, []api.Constraint{{A: 0, B: 1, Rels: []int{api.Before, api.During, api.Finishes}}, {A: 1, B: 0, Rels: []int{api.Contains, api.FinishedBy, api.Before}}, {A: 0, B: 1, Rels: []int{api.Finishes, api.After}}},
			[]api.Constraint{{A: 0, B: 1, Rels: []int{api.Finishes}}}},
		{"a permitted pair of equals", 2, []api.Constraint{{A: 1, B: 1, Rels: allRels()}, {A: 0, B: 1, Rels: []int{api.Meets}}},
			[]api.Constraint{{A: 0, B: 1, Rels: []int{api.Meets}}}},
	} {
		if got, is := allen.Tighten(c.n, c.l); !is || !same(got, c.want) {
			t.Error(c.name, got, is)
		}
	}
}

func TestTightenFindsContradictions(t *testing.T) {
	chain := []api.Constraint{{A: 0, B: 1, Rels: []int{api.Before}}, {A: 1, B: 2, Rels: []int{api.Before}}}
	for _, c := range []struct {
		name string
		n    int
		l    []api.Constraint
	}{
		{"a cycle", 3, append(slices.Clone(chain), api.Constraint{A: 2, B: 0, Rels: []int{api.Before}})},
		{"a cycle beside periods without constraints", 8, append(slices.Clone(chain), api.Constraint{A: 2, B: 0, Rels: []int{api.Before}})},
		{"a pair", 2, []api.Constraint{{A: 0, B: 1, Rels: []int{api.Before}}, {A: 0, B: 1, Rels: []int{api.After}}}},
		{"a pair in both directions", 2, []api.Constraint{{A: 0, B: 1, Rels: []int{api.Before}}, {A: 1, B: 0, Rels: []int{api.Before}}}},
		{"no relation", 2, []api.Constraint{{A: 0, B: 1}}},
		{"a period that differs from itself", 1, []api.Constraint{{A: 0, B: 0, Rels: []int{api.Before, api.After}}}},
		{"the last period differs from itself", 3, []api.Constraint{{A: 2, B: 2, Rels: []int{api.Overlaps, api.OverlappedBy}}}},
		{"a period without a relation to itself", 1, []api.Constraint{{A: 0, B: 0}}},
	} {
		if got, is := allen.Tighten(c.n, c.l); is || len(got) != 0 {
			t.Error(c.name, got, is)
		}
	}
}

func TestTightenRejectsOtherArguments(t *testing.T) {
	for _, n := range []int{0, -1, 9, 10, 64, math.MinInt, math.MaxInt} {
		if got, is := allen.Tighten(n, nil); is || len(got) != 0 {
			t.Error(n, got, is)
		}
	}
	good := api.Constraint{A: 0, B: 1, Rels: []int{api.Before}}
	for _, bad := range []api.Constraint{
		{A: -1, B: 0, Rels: []int{api.Before}},
		{A: 0, B: -1, Rels: []int{api.Before}},
		{A: 2, B: 0, Rels: []int{api.Before}},
		{A: 0, B: 2, Rels: []int{api.Before}},
		{A: math.MaxInt, B: math.MinInt, Rels: []int{api.Before}},
		{A: 0, B: 1, Rels: []int{api.Before, -1}},
		{A: 0, B: 1, Rels: []int{api.Before, 13}},
		{A: 0, B: 1, Rels: []int{api.Before, 64}},
		{A: 0, B: 1, Rels: []int{api.Before, math.MinInt}},
		{A: 0, B: 0, Rels: []int{api.Equals, 13}},
	} {
		if got, is := allen.Tighten(2, []api.Constraint{good, bad}); is || len(got) != 0 {
			t.Error(bad, got, is)
		}
		if got, is := allen.Tighten(2, []api.Constraint{bad, good}); is || len(got) != 0 {
			t.Error(bad, got, is)
		}
	}
}

func TestTightenReturnsAllPairsInOrder(t *testing.T) {
	for n := 1; n <= 8; n++ {
		got, is := allen.Tighten(n, nil)
		at := 0
		for a := range n {
			for b := a + 1; b < n; b++ {
				if !is || at >= len(got) || got[at].A != a || got[at].B != b || !slices.Equal(got[at].Rels, allRels()) {
					t.Fatal(n, got, is)
				}
				at++
			}
		}
		if !is || at != len(got) {
			t.Error(n, len(got), is)
		}
	}
}

func TestTightenAgreesWithTheDefinition(t *testing.T) {
	seen := occurring()
	next := random(1)
	consistent := 0
	for range 300 {
		n := 1 + next(5)
		l := someConstraints(next, n)
		want, possible := tightened(&seen, n, l)
		got, is := allen.Tighten(n, l)
		if is != possible || !same(got, want) {
			t.Fatal(n, l, got, is, want, possible)
		}
		if is {
			consistent++
		}
	}
	if consistent < 60 || consistent > 280 {
		t.Error("the networks are too much alike:", consistent)
	}
}

// One of two adjacent periods lies between the other one and a third period, so that no period overlaps all three partly; but every three of the four can be arranged.
func TestTightenStopsAtPathConsistency(t *testing.T) {
	overlap, apart := []int{api.Overlaps, api.OverlappedBy}, []int{api.Before, api.After}
	l := []api.Constraint{
		{A: 0, B: 1, Rels: overlap}, {A: 0, B: 2, Rels: apart}, {A: 0, B: 3, Rels: []int{api.Meets, api.MetBy}},
		{A: 1, B: 2, Rels: overlap}, {A: 1, B: 3, Rels: overlap}, {A: 2, B: 3, Rels: apart},
	}
	if got, is := allen.Tighten(4, l); !is || !same(got, l) {
		t.Error(got, is)
	}
}

func TestTightenPropagatesOverEightPeriods(t *testing.T) {
	var l []api.Constraint
	for i := range 7 {
		l = append(l, api.Constraint{A: i, B: i + 1, Rels: []int{api.During, api.Starts}})
	}
	l = append(l, api.Constraint{A: 0, B: 7, Rels: []int{api.Starts, api.Before}})
	got, is := allen.Tighten(8, l)
	if !is || len(got) != 28 {
		t.Fatal(got, is)
	}
	for _, c := range got {
		if !slices.Equal(c.Rels, []int{api.Starts}) {
			t.Error(c)
		}
	}
}

func TestTightenKeepsArguments(t *testing.T) {
	rels := append(make([]int, 0, 8), api.After, api.Before, api.After)
	spare := rels[:8]
	spare[3] = 77
	l := append(make([]api.Constraint, 0, 4), api.Constraint{A: 1, B: 0, Rels: rels})
	got, is := allen.Tighten(3, l)
	if !is || len(got) != 3 {
		t.Fatal(got, is)
	}
	if l[0].A != 1 || l[0].B != 0 || !slices.Equal(spare, []int{api.After, api.Before, api.After, 77, 0, 0, 0, 0}) || !reflect.DeepEqual(l[:4][1], api.Constraint{}) {
		t.Error(l, spare)
	}
	want := []int{api.Before, api.After}
	clear(got[1].Rels[:cap(got[1].Rels)])
	if !slices.Equal(got[0].Rels, want) || !slices.Equal(got[2].Rels, allRels()) {
		t.Error("lists of one result share memory", got)
	}
	if again, _ := allen.Tighten(3, l); !slices.Equal(again[0].Rels, want) || !slices.Equal(again[1].Rels, allRels()) {
		t.Error(again)
	}
}

func TestTightenedConstraintsAreSatisfied(t *testing.T) {
	next := random(2)
	l := small()
	for range 400 {
		n := 1 + next(8)
		periods := make([]api.Period, n)
		for i := range periods {
			periods[i] = l[next(len(l))]
		}
		constraints := someConstraints(next, n)
		for i, c := range constraints {
			rel, _ := allen.Relation(periods[c.A], periods[c.B])
			constraints[i].Rels = append(c.Rels, rel)
		}
		if !allen.Satisfied(periods, constraints) {
			t.Fatal(periods, constraints)
		}
		got, is := allen.Tighten(n, constraints)
		if !is || !allen.Satisfied(periods, got) {
			t.Fatal(periods, constraints, got, is)
		}
		if again, still := allen.Tighten(n, got); !still || !same(again, got) {
			t.Fatal(got, again, still)
		}
	}
}

func TestSatisfied(t *testing.T) {
	periods := []api.Period{{From: 0, To: 1}, {From: 2, To: 3}, {From: 5, To: api.Forever}}
	for _, c := range []struct {
		l    []api.Constraint
		want bool
	}{
		{nil, true},
		{[]api.Constraint{{A: 0, B: 1, Rels: []int{api.Before}}, {A: 1, B: 2, Rels: []int{api.Before}}}, true},
		{[]api.Constraint{{A: 2, B: 0, Rels: []int{api.Before, api.After}}}, true},
		{[]api.Constraint{{A: 2, B: 2, Rels: []int{api.Equals}}}, true},
		{[]api.Constraint{{A: 2, B: 2, Rels: []int{api.Before}}}, false},
		{[]api.Constraint{{A: 0, B: 1, Rels: []int{api.After}}}, false},
		{[]api.Constraint{{A: 0, B: 1, Rels: []int{api.Before}}, {A: 1, B: 2, Rels: []int{api.Meets}}}, false},
		{[]api.Constraint{{A: 0, B: 1}}, false},
		{[]api.Constraint{{A: 0, B: 1, Rels: []int{api.Before, 13}}}, false},
		{[]api.Constraint{{A: 0, B: 1, Rels: []int{-1, api.Before}}}, false},
		{[]api.Constraint{{A: 0, B: 3, Rels: []int{api.Before}}}, false},
		{[]api.Constraint{{A: 3, B: 0, Rels: []int{api.After}}}, false},
		{[]api.Constraint{{A: -1, B: 0, Rels: []int{api.Before}}}, false},
		{[]api.Constraint{{A: 0, B: -1, Rels: []int{api.Before}}}, false},
		{[]api.Constraint{{A: math.MinInt, B: math.MaxInt, Rels: []int{api.Before}}}, false},
	} {
		if got := allen.Satisfied(periods, c.l); got != c.want {
			t.Error(c, got)
		}
	}
}

func TestSatisfiedNeedsValidPeriods(t *testing.T) {
	for _, p := range invalid() {
		l := []api.Period{{From: 0, To: 1}, p}
		if allen.Satisfied(l, nil) || allen.Satisfied(l, []api.Constraint{{A: 0, B: 0, Rels: []int{api.Equals}}}) || allen.Satisfied(l, []api.Constraint{{A: 0, B: 1, Rels: allRels()}}) {
			t.Error(p)
		}
	}
	if !allen.Satisfied(nil, nil) || allen.Satisfied(nil, []api.Constraint{{A: 0, B: 0, Rels: []int{api.Equals}}}) {
		t.Error("no periods")
	}
}

func TestSatisfiedByManyPeriods(t *testing.T) {
	var periods []api.Period
	var l []api.Constraint
	for i := range 40 {
		periods = append(periods, api.Period{From: i, To: i + 1})
		if i > 0 {
			l = append(l, api.Constraint{A: i - 1, B: i, Rels: []int{api.Meets}})
		}
	}
	if !allen.Satisfied(periods, l) || allen.Satisfied(periods, append(l, api.Constraint{A: 39, B: 0, Rels: []int{api.MetBy}})) {
		t.Error("a chain of forty periods")
	}
}
