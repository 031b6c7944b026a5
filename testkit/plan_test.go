package testkit_test

import (
	"slices"
	"testing"

	"bitemporal/api"
	"bitemporal/snapshot"
	"bitemporal/testkit"
)

// TestPlans checks that plans are valid unless they are wide or damaged, that their kinds are right, and that MostRows is a limit.
func TestPlans(t *testing.T) {
	m, seen := &testkit.Planner{Maker: testkit.New(8)}, testkit.NewCensus()
	for range 4000 {
		m.In = [][]int{m.Kinds(3), m.Kinds(3)}
		var in []api.Bag
		var numbers []int
		for _, kinds := range m.In {
			b := api.Bag{Kinds: kinds, Rows: m.Rows(kinds, 3)}
			in, numbers = append(in, b), append(numbers, len(b.Rows))
		}
		p, want := m.Plan(1 + m.Below(4))
		kinds, err := snapshot.Check(p, m.In)
		if err != api.OK && err != api.ErrColumns || err == api.OK && !slices.Equal(kinds, want) {
			t.Fatalf("%+v: %v, %d; want %v", p, kinds, err, want)
		}
		if most := testkit.MostRows(p, numbers); most < 300 {
			if b, _ := snapshot.Run(p, in); len(b.Rows) > most {
				t.Fatalf("%+v: %d rows, want at most %d", p, len(b.Rows), most)
			}
		}
		m.Damage(&p)
		_, err = snapshot.Check(p, m.In)
		seen.Add(p, err)
	}
	seen.Check(t, api.OK, api.ErrRange, api.ErrKind, api.ErrInvalid, api.ErrColumns)
}

// TestCensus checks that a census misses errors and operators of which there are too few.
func TestCensus(t *testing.T) {
	c := testkit.NewCensus()
	errors := func(l ...api.Errno) int {
		var got reports
		c.Check(&got, l...)
		return got.errors
	}
	p := api.Plan{Op: api.PlanUnion, Inputs: []api.Plan{{Op: api.PlanScan}, {Op: api.PlanScan}}}
	for range 150 {
		c.Add(p, api.OK)
	}
	for range 50 {
		c.Add(p, api.ErrRange)
	}
	if n := errors(api.OK, api.ErrRange); n != api.PlanGroup-1 {
		t.Error("operators that are missing", n)
	}
	if n := errors(api.OK, api.ErrKind, api.ErrDepth); n != api.PlanGroup+1 {
		t.Error("errors that are missing", n)
	}
	for range 150 {
		c.Add(p, api.OK)
	}
	if n := errors(); n != api.PlanGroup-2 {
		t.Error("operators that are missing", n)
	}
}
