package sequenced_test

import (
	"reflect"
	"slices"
	"testing"
	"time"

	"bitemporal/api"
	"bitemporal/coalesce"
	"bitemporal/period"
	"bitemporal/project"
	"bitemporal/sequenced"
	"bitemporal/snapshot"
	"bitemporal/testkit"
)

// planner returns a maker of plans over some relations, and the relations.
func planner(m *testkit.Maker) (*testkit.Planner, []api.Relation) {
	planner := &testkit.Planner{Maker: m}
	var in []api.Relation
	for range m.Below(4) {
		r := m.Relation(m.Kinds([]int{3, 14}[m.Below(8)/7]), []int{3, 6, 9}[m.Below(3)])
		in = append(in, r)
		planner.In = append(planner.In, r.Kinds)
	}
	return planner, in
}

// mayGrow reports whether the result of a plan might have too many rows for a test.
func mayGrow(p api.Plan, in []api.Relation) bool {
	var numbers []int
	for _, r := range in {
		numbers = append(numbers, len(r.Facts))
	}
	return testkit.MostRows(p, numbers) > 100
}

// resultAt returns the ordinary result for the snapshots at an instant.
func resultAt(p api.Plan, in []api.Relation, t int) (api.Bag, api.Errno) {
	var bags []api.Bag
	for _, r := range in {
		bags = append(bags, testkit.Bag(r, t))
	}
	return snapshot.Run(p, bags)
}

// constants returns what is in the lists of values of a plan, as relations.
func constants(p api.Plan) []api.Relation {
	r := api.Relation{Kinds: p.Kinds}
	for _, row := range p.Rows {
		r.Facts = append(r.Facts, api.Fact{Row: row})
	}
	l := []api.Relation{r}
	for _, q := range p.Inputs {
		l = append(l, constants(q)...)
	}
	return l
}

// changesOf returns the instants of a maker's relations at which the ordinary result changes.
func changesOf(p api.Plan, in []api.Relation) []int {
	var l []int
	for _, t := range testkit.Bounds() {
		if t == 0 || t == forever {
			continue
		}
		before, _ := resultAt(p, in, t-1)
		if after, _ := resultAt(p, in, t); !snapshot.Same(before, after) {
			l = append(l, t)
		}
	}
	return l
}

// checkAll compares the results of all functions with the ordinary results, and returns the error of the plan.
func checkAll(t *testing.T, m *testkit.Maker, p api.Plan, in []api.Relation) api.Errno {
	t.Helper()
	_, want := resultAt(p, in, 0)
	empty := api.Relation{}
	got, err := sequenced.Run(p, in)
	isRight := func(at int) api.Bag {
		b, _ := resultAt(p, in, at)
		return b
	}
	if err != want || err == api.OK && !testkit.Is(got, isRight) || err != api.OK && !reflect.DeepEqual(got, empty) {
		t.Fatalf("Run of %+v over %v: %v, %d; want the error %d", p, in, got, err, want)
	}
	during := m.AnyPeriod()
	if m.Chance(2) {
		during = m.Period()
	}
	wantOver := want
	if want == api.OK && !period.Valid(during) {
		wantOver = api.ErrRange
	}
	over, err := sequenced.Over(p, in, during)
	isRight = func(at int) api.Bag {
		b, _ := resultAt(p, in, at)
		if !period.Contains(during, at) {
			b.Rows = nil
		}
		return b
	}
	if err != wantOver || err == api.OK && !testkit.Is(over, isRight) || err != api.OK && !reflect.DeepEqual(over, empty) {
		t.Fatalf("Over of %+v over %v during %v: %v, %d; want the error %d", p, in, during, over, err, wantOver)
	}
	shared := slices.Concat(in, constants(p))
	if testkit.SharesMemory(got, shared...) || testkit.SharesMemory(over, shared...) {
		t.Fatalf("the results of %+v over %v share memory: %v, %v", p, in, got, over)
	}
	checkInstants(t, m, p, in, want)
	return want
}

// checkInstants compares the results of At and Changes with the ordinary results.
func checkInstants(t *testing.T, m *testkit.Maker, p api.Plan, in []api.Relation, err api.Errno) {
	t.Helper()
	at := m.AnyPeriod().From
	want, wantErr := resultAt(p, in, at)
	if wantErr == api.OK && (at < 0 || at >= forever) {
		want, wantErr = api.Bag{}, api.ErrRange
	}
	bag, gotErr := sequenced.At(p, in, at)
	if gotErr != wantErr || !reflect.DeepEqual(bag, want) {
		t.Fatalf("At of %+v over %v at %d: %v, %d; want %v, %d", p, in, at, bag, gotErr, want, wantErr)
	}
	r := api.Relation{Kinds: bag.Kinds}
	for _, row := range bag.Rows {
		r.Facts = append(r.Facts, api.Fact{Row: row})
	}
	if testkit.SharesMemory(r, slices.Concat(in, constants(p))...) {
		t.Fatalf("At of %+v over %v shares memory: %v", p, in, bag)
	}
	var wantChanges []int
	if err == api.OK {
		wantChanges = changesOf(p, in)
	}
	if l, gotErr := sequenced.Changes(p, in); gotErr != err || !slices.Equal(l, wantChanges) {
		t.Fatalf("Changes of %+v over %v: %v, %d; want %v, %d", p, in, l, gotErr, wantChanges, err)
	}
}

// TestRandomPlans compares the results of random plans, some of which are damaged, with the ordinary results at every instant.
func TestRandomPlans(t *testing.T) {
	maker, seen := testkit.New(1), testkit.NewCensus()
	for i := range 12000 {
		m, in := planner(maker)
		depth := 1 + m.Below(4)
		twin := *maker
		p, _ := m.Plan(depth)
		other := &testkit.Planner{Maker: &twin, In: m.In}
		q, _ := other.Plan(depth)
		if i%3 == 0 {
			m.Damage(&p)
			other.Damage(&q)
		}
		if mayGrow(p, in) {
			continue
		}
		before := testkit.Whole(slices.Concat(in, constants(p))...)
		err := checkAll(t, maker, p, in)
		if !reflect.DeepEqual(testkit.Whole(slices.Concat(in, constants(p))...), before) || !reflect.DeepEqual(p, q) {
			t.Fatalf("an argument was changed: %+v, %v", p, in)
		}
		seen.Add(p, err)
	}
	seen.Check(t, api.OK, api.ErrRange, api.ErrKind, api.ErrInvalid, api.ErrColumns)
}

// TestEquivalence checks that the results of equivalent inputs are identical, and that Over depends only on what is valid during the period.
func TestEquivalence(t *testing.T) {
	maker := testkit.New(2)
	for range 4000 {
		m, in := planner(maker)
		p, _ := m.Plan(1 + m.Below(4))
		if mayGrow(p, in) {
			continue
		}
		during := m.Period()
		var other, within []api.Relation
		for _, r := range in {
			other = append(other, m.Equivalent(r))
			part := api.Relation{Kinds: r.Kinds, Facts: coalesce.Restrict(r.Facts, during)}
			for _, f := range m.Relation(r.Kinds, 4).Facts {
				for _, q := range period.Subtract(f.Valid, during) {
					part.Facts = append(part.Facts, api.Fact{Row: f.Row, Valid: q})
				}
			}
			within = append(within, part)
		}
		want, _ := sequenced.Run(p, in)
		got, _ := sequenced.Run(p, other)
		testkit.Same(t, "equivalent inputs", got, want)
		wantOver, _ := sequenced.Over(p, in, during)
		gotOver, _ := sequenced.Over(p, other, during)
		testkit.Same(t, "equivalent inputs during a period", gotOver, wantOver)
		gotOver, _ = sequenced.Over(p, within, during)
		testkit.Same(t, "other inputs at other instants", gotOver, wantOver)
		testkit.Same(t, "a part of the result", wantOver, api.Relation{Kinds: want.Kinds, Facts: coalesce.Restrict(want.Facts, during)})
	}
}

// TestTranslation checks that the result moves with the inputs.
func TestTranslation(t *testing.T) {
	maker := testkit.New(3)
	for range 4000 {
		m, in := planner(maker)
		p, _ := m.Plan(1 + m.Below(4))
		if mayGrow(p, in) {
			continue
		}
		n := m.Below(20)
		if m.Chance(4) {
			n = forever - 2
		}
		var shifted []api.Relation
		for _, r := range in {
			shifted = append(shifted, project.Shift(r, n))
		}
		rest := api.Period{From: n, To: forever}
		want, _ := sequenced.Run(p, in)
		want = project.Shift(want, n)
		got, _ := sequenced.Over(p, shifted, rest)
		testkit.Same(t, "shifted inputs", got, want)
		at := m.Below(9)
		bag, err := sequenced.At(p, in, at)
		if n+at < forever {
			if other, otherErr := sequenced.At(p, shifted, n+at); err != otherErr || !reflect.DeepEqual(bag, other) {
				t.Fatalf("%+v over %v at %d: %v; at %d: %v", p, in, at, bag, n+at, other)
			}
		}
	}
}

// TestAnyArguments calls the functions with relations for which nothing is promised but that they return.
func TestAnyArguments(t *testing.T) {
	maker := testkit.New(4)
	for range 6000 {
		m, _ := planner(maker)
		p, _ := m.Plan(1 + m.Below(4))
		m.Damage(&p)
		var in []api.Relation
		for _, kinds := range m.In {
			r := m.AnyRelation(3)
			if m.Below(4) > 0 {
				r.Kinds = kinds
			}
			in = append(in, r)
		}
		if mayGrow(p, in) {
			continue
		}
		got, _ := sequenced.Run(p, in)
		over, _ := sequenced.Over(p, in, m.AnyPeriod())
		if !coalesce.Canonical(got.Facts) || !coalesce.Canonical(over.Facts) || testkit.SharesMemory(got, in...) || testkit.SharesMemory(over, in...) {
			t.Fatalf("%+v over %v: %v, %v", p, in, got, over)
		}
		sequenced.At(p, in, m.AnyNumber())
		sequenced.Changes(p, in)
	}
}

// TestParts checks that results do not change if operations are divided into those for parts.
func TestParts(t *testing.T) {
	maker, repeated := testkit.New(5), 0
	for range 6000 {
		m, in := planner(maker)
		p, _ := m.Plan(1 + m.Below(4))
		if mayGrow(p, in) {
			continue
		}
		want, _ := sequenced.Run(p, in)
		changes, _ := sequenced.Changes(p, in)
		if !testkit.Identical(coalesce.Set(want.Facts), want.Facts) {
			repeated++
		}
		for _, most := range []int{1, 2, 3, 7} {
			if got := sequenced.RunInParts(p, in, most); !testkit.Identical(got, want.Facts) {
				t.Fatalf("%+v over %v in parts of %d: %v, want %v", p, in, most, got, want.Facts)
			}
			if got := sequenced.ChangesInParts(p, in, most); !slices.Equal(got, changes) {
				t.Fatalf("changes of %+v over %v in parts of %d: %v, want %v", p, in, most, got, changes)
			}
		}
	}
	if repeated < 1000 {
		t.Error("too few results with duplicates", repeated)
	}
}

// TestManyFacts checks that time does not grow with the product of the numbers of facts and instants.
func TestManyFacts(t *testing.T) {
	const n = 60000
	var in [2]api.Relation
	for i := range in {
		in[i].Kinds = []int{kInt, kInt}
		for k := range n {
			in[i].Facts = append(in[i].Facts, fact(k, k+10+i, k*7919%(n/4), k%5))
		}
	}
	joined := node(api.PlanLeft, equal(0, 2), scan(0), scan(1))
	filtered := node(api.PlanFilter, api.Plan{Pred: testkit.Operation(api.OpLt, column(1), number(4))}, joined)
	sums := node(api.PlanGroup, api.Plan{Keys: []int{0}, Aggs: []api.Agg{{Op: api.AggSum, Arg: 3}}}, filtered)
	p := node(api.PlanDistinct, api.Plan{}, node(api.PlanUnion, api.Plan{}, sums, node(api.PlanExcept, api.Plan{}, scan(1), scan(0))))
	start := time.Now()
	got, err := sequenced.Run(p, in[:])
	if err != api.OK || len(got.Facts) < n {
		t.Error(len(got.Facts), err)
	}
	if l, err := sequenced.Changes(p, in[:]); err != api.OK || len(l) < n {
		t.Error(len(l), err)
	}
	within := api.Period{From: 100, To: 110}
	if over, err := sequenced.Over(p, in[:], within); err != api.OK || !testkit.Identical(over.Facts, coalesce.Restrict(got.Facts, within)) {
		t.Error(over, err)
	}
	if took := time.Since(start); took > 20*time.Second {
		t.Error("evaluation took", took)
	}
}

// TestJoinsOfManyFacts checks that neither many rows at once nor many facts with the same row, but at different instants, make joins slow.
func TestJoinsOfManyFacts(t *testing.T) {
	const n = 60000
	in := []api.Relation{testkit.Numbers(1), testkit.Numbers(1), testkit.Numbers(1)}
	for k := range n {
		in[0].Facts = append(in[0].Facts, fact(0, forever, k))
		in[1].Facts = append(in[1].Facts, fact(2*k, 2*k+1, k%2))
		in[2].Facts = append(in[2].Facts, fact(k, k+10, k%3))
	}
	start := time.Now()
	for _, p := range []api.Plan{node(api.PlanJoin, equal(0, 1), scan(0), scan(0)), node(api.PlanLeft, equal(0, 1), scan(2), scan(1))} {
		if got, err := sequenced.Run(p, in); err != api.OK || len(got.Facts) < n {
			t.Error(len(got.Facts), err)
		}
	}
	if took := time.Since(start); took > 10*time.Second {
		t.Error("evaluation took", took)
	}
}

// TestShortPeriods checks that Over takes no time for facts that are not valid during the period.
func TestShortPeriods(t *testing.T) {
	in := []api.Relation{testkit.Numbers(1, fact(0, 5, -1))}
	for k := range 20000 {
		in[0].Facts = append(in[0].Facts, fact(5+k%7, forever, k))
	}
	p := node(api.PlanJoin, api.Plan{Pred: testkit.Operation(api.OpLe, column(0), column(1))}, scan(0), scan(0))
	start := time.Now()
	if got, err := sequenced.Over(p, in, api.Period{From: 2, To: 5}); err != api.OK || !testkit.Identical(got.Facts, facts(fact(2, 5, -1, -1))) {
		t.Error(got, err)
	}
	if took := time.Since(start); took > 5*time.Second {
		t.Error("evaluation took", took)
	}
}

// TestRowsBeyondCanonicalForms evaluates plans within which a row is valid more often at once than a canonical form tells.
func TestRowsBeyondCanonicalForms(t *testing.T) {
	const m, n = 17, 61681 // so that m * n is 2^20 + 1
	in := []api.Relation{
		testkit.Numbers(1, slices.Repeat(facts(fact(0, 9, 1)), m)...),
		testkit.Numbers(1, slices.Repeat(facts(fact(3, 12, 1)), n)...),
		testkit.Numbers(1, fact(5, 7, 7)),
	}
	ones := api.Plan{Pred: testkit.Operation(api.OpEq, column(0), number(1))}
	joined := node(api.PlanFilter, ones, node(api.PlanJoin, equal(0, 1), scan(0), scan(1)))
	sevens := node(api.PlanProject, api.Plan{Exprs: []api.Expr{number(7)}}, joined)
	p := node(api.PlanUnion, api.Plan{}, sevens, scan(2))
	same := node(api.PlanIntersect, api.Plan{}, node(api.PlanExcept, api.Plan{}, p, values(8)), p)
	got, err := sequenced.Run(count(same), in)
	if err != api.OK {
		t.Error(err)
	}
	testkit.Want(t, "a union", got, []int{kInt}, facts(fact(0, 3, 0), fact(9, forever, 0), fact(3, 5, m*n), fact(7, 9, m*n), fact(5, 7, m*n+1)))
	got, err = sequenced.Run(count(node(api.PlanLeft, equal(0, 1), scan(0), scan(1))), in)
	if err != api.OK {
		t.Error(err)
	}
	testkit.Want(t, "a left join", got, []int{kInt}, facts(fact(9, forever, 0), fact(0, 3, m), fact(3, 9, m*n)))
	if bag, err := sequenced.At(p, in, 6); err != api.OK || len(bag.Rows) != m*n+1 {
		t.Error(len(bag.Rows), err)
	}
	if l, err := sequenced.Changes(p, in); err != api.OK || !slices.Equal(l, []int{3, 5, 7, 9}) {
		t.Error(l, err)
	}
}
