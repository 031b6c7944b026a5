package nonseq_test

import (
	"reflect"
	"slices"
	"testing"
	"time"

	"bitemporal/api"
	"bitemporal/coalesce"
	"bitemporal/nonseq"
	"bitemporal/period"
	"bitemporal/snapshot"
	"bitemporal/testkit"
	"bitemporal/tjoin"
	"bitemporal/tuple"
)

// history returns versions of facts with rows of these kinds, some of which were never valid or believed.
func history(m *testkit.Maker, kinds []int, most int) []api.Version {
	var l []api.Version
	for i, f := range m.Relation(kinds, most).Facts {
		v := api.Version{ID: i + 1, Schema: m.Below(3), Row: f.Row, Valid: f.Valid, System: m.Period(), By: m.Below(5), Until: m.Below(9)}
		switch m.Below(8) {
		case 0:
			v.Valid = m.AnyPeriod()
		case 1:
			v.System = m.AnyPeriod()
		case 2:
			v.By = m.AnyNumber()
		}
		l = append(l, v)
	}
	return append(l, api.Version{ID: -7})[:len(l)]
}

// rowsOf returns a relation whose facts have the rows of versions and spare capacity, which is compared by testkit.
func rowsOf(l []api.Version) api.Relation {
	var r api.Relation
	for _, v := range l[:cap(l)] {
		r.Facts = append(r.Facts, api.Fact{Row: v.Row})
	}
	return r
}

// relation returns a relation with the rows of a bag.
func relation(b api.Bag) api.Relation {
	r := api.Relation{Kinds: b.Kinds}
	for _, row := range b.Rows {
		r.Facts = append(r.Facts, api.Fact{Row: row})
	}
	return r
}

// instants returns numbers of which one is in every common part of a period of a maker and a range between numbers given.
func instants(more ...int) []int {
	l := slices.Concat(testkit.Bounds(), more)
	for _, n := range slices.Clone(l) {
		l = append(l, n-1, n+1)
	}
	return l
}

func isBelieved(v api.Version, at int) bool {
	return v.System.From >= 0 && v.System.To <= api.Forever && v.System.From <= at && at < v.System.To
}

// isSelected decides about a clause by its definition.
func isSelected(v api.Version, c api.Clause) bool {
	within := func(from, to int) bool {
		return slices.ContainsFunc(instants(c.From, c.To), func(t int) bool { return from <= t && t <= to && isBelieved(v, t) })
	}
	switch {
	case !period.Valid(v.System):
		return false
	case c.Kind == api.ClauseCurrent:
		return v.System.To == api.Forever
	case c.Kind == api.ClauseAsOf:
		return isBelieved(v, c.From)
	case c.Kind == api.ClauseFromTo:
		return c.From < c.To && within(c.From, c.To-1)
	case c.Kind == api.ClauseBetween:
		return within(c.From, c.To)
	}
	return c.Kind == api.ClauseAll
}

// TestSelectAgreesWithTheDefinition compares the versions that clauses select, and their facts, with the definitions.
func TestSelectAgreesWithTheDefinition(t *testing.T) {
	m, seen := testkit.New(1), map[int]int{}
	for range 20000 {
		l := history(m, m.Kinds(2), 6)
		before, all := testkit.Whole(rowsOf(l)), slices.Clone(l)
		p := m.AnyPeriod()
		c := api.Clause{Kind: m.Below(7) - 1, From: p.From, To: p.To}
		var want []api.Version
		var facts []api.Fact
		for _, v := range l {
			facts = append(facts, api.Fact{Row: v.Row, Valid: v.Valid})
			if isSelected(v, c) {
				want = append(want, v)
			}
		}
		got := nonseq.Select(l, c)
		if len(got)+len(want) > 0 && !reflect.DeepEqual(got, want) {
			t.Fatalf("%+v of %v: %v, want %v", c, l, got, want)
		}
		f := nonseq.Facts(l)
		if !testkit.Identical(f, facts) {
			t.Fatalf("Facts of %v: %v", l, f)
		}
		if testkit.SharesMemory(rowsOf(got), rowsOf(l)) || testkit.SharesMemory(api.Relation{Facts: f}, rowsOf(l)) {
			t.Fatalf("%v or %v shares memory with %v", got, f, l)
		}
		if !reflect.DeepEqual(testkit.Whole(rowsOf(l)), before) || !reflect.DeepEqual(l, all) {
			t.Fatalf("%v was changed: %v", all, l)
		}
		seen[c.Kind] += len(got)
	}
	for kind := api.ClauseCurrent; kind <= api.ClauseAll; kind++ {
		if seen[kind] < 1000 {
			t.Error("too few versions are selected", seen)
		}
	}
}

// TestBeliefs compares Slice with its definition, and with the facts of what a clause selects.
func TestBeliefs(t *testing.T) {
	m, believed := testkit.New(2), 0
	for range 10000 {
		kinds := m.Kinds(2)
		l := history(m, kinds, 7)
		before := testkit.Whole(rowsOf(l))
		at := m.AnyPeriod().From
		got := api.Relation{Kinds: kinds, Facts: nonseq.Slice(l, at)}
		if !testkit.Is(got, func(t int) api.Bag {
			b := api.Bag{Kinds: kinds}
			for _, v := range l {
				if isBelieved(v, at) && period.Contains(v.Valid, t) {
					b.Rows = append(b.Rows, v.Row)
				}
			}
			b.Rows = tuple.Sort(b.Rows)
			return b
		}) {
			t.Fatalf("the belief at %d of %v: %v", at, l, got)
		}
		asOf := nonseq.Select(l, api.Clause{Kind: api.ClauseAsOf, From: at})
		if !testkit.Identical(got.Facts, coalesce.Bag(nonseq.Facts(asOf))) {
			t.Fatalf("the belief at %d of %v is %v, as of then %v", at, l, got, asOf)
		}
		if testkit.SharesMemory(got, rowsOf(l)) || !reflect.DeepEqual(testkit.Whole(rowsOf(l)), before) {
			t.Fatalf("the belief at %d of %v shares memory or changes it: %v", at, l, got)
		}
		believed += len(got.Facts)
	}
	if believed < 5000 {
		t.Error("too few facts are believed", believed)
	}
}

// TestRanges checks what clauses have in common.
func TestRanges(t *testing.T) {
	m := testkit.New(3)
	for range 10000 {
		l := history(m, m.Kinds(1), 6)
		p := m.AnyPeriod()
		from, to := p.From, p.To
		selected := func(kind, from, to int) []int {
			return ids(nonseq.Select(l, api.Clause{Kind: kind, From: from, To: to}))
		}
		fromTo := selected(api.ClauseFromTo, from, to)
		if from < to {
			var want []int
			for _, v := range l {
				if slices.ContainsFunc(instants(from, to), func(t int) bool {
					return from <= t && t < to && slices.Contains(selected(api.ClauseAsOf, t, 0), v.ID)
				}) {
					want = append(want, v.ID)
				}
			}
			if !slices.Equal(fromTo, want) {
				t.Fatalf("from %d to %d of %v: %v, want %v", from, to, l, fromTo, want)
			}
		}
		if between := selected(api.ClauseBetween, from, to-1); from <= to-1 && to-1 < to && !slices.Equal(between, fromTo) {
			t.Fatalf("between %d and %d of %v: %v, want %v", from, to-1, l, between, fromTo)
		}
		if current := selected(api.ClauseCurrent, from, to); !slices.Equal(current, selected(api.ClauseAsOf, api.Forever-1, to)) {
			t.Fatalf("the current ones of %v: %v", l, current)
		}
	}
}

// bag returns the bag of the extended rows of versions, by its definition.
func bag(kinds []int, l []api.Version) api.Bag {
	b := api.Bag{Kinds: slices.Concat(kinds, []int{kInt, kInt, kInt, kInt, kInt})}
	for _, v := range l {
		row := slices.Clone(v.Row)
		for _, n := range []int{v.Valid.From, v.Valid.To, v.System.From, v.System.To, v.By} {
			if n < -1<<50 || n > 1<<50 {
				row = append(row, api.Value{})
			} else {
				row = append(row, api.Value{Kind: kInt, Int: n})
			}
		}
		b.Rows = append(b.Rows, row)
	}
	b.Rows = tuple.Sort(b.Rows)
	return b
}

// TestRandomPlans compares the results of random plans, some of which are damaged, with those of package snapshot.
func TestRandomPlans(t *testing.T) {
	m, seen := &testkit.Planner{Maker: testkit.New(4)}, testkit.NewCensus()
	for i := range 12000 {
		m.In = nil
		var in []api.Given
		var bags []api.Bag
		var numbers []int
		var memory []api.Relation
		for range m.Below(4) {
			kinds := m.Kinds(2)
			g := api.Given{Kinds: append(slices.Clone(kinds), -7)[:len(kinds)], Versions: history(m.Maker, kinds, 6)}
			b := bag(kinds, g.Versions)
			in, bags, numbers = append(in, g), append(bags, b), append(numbers, len(b.Rows))
			memory = append(memory, rowsOf(g.Versions), api.Relation{Kinds: g.Kinds})
			m.In = append(m.In, b.Kinds)
		}
		before := testkit.Whole(memory...)
		for i, g := range in {
			if got := nonseq.Rows(g.Kinds, g.Versions); !reflect.DeepEqual(got, bags[i]) || testkit.SharesMemory(relation(got), memory...) {
				t.Fatalf("Rows of %v: %v, want %v in new memory", g, got, bags[i])
			}
		}
		p, _ := m.Plan(1 + m.Below(4))
		if i%3 == 0 {
			m.Damage(&p)
		}
		if testkit.MostRows(p, numbers) > 250 {
			continue
		}
		want, wantErr := snapshot.Run(p, bags)
		got, err := nonseq.Run(p, in)
		if err != wantErr || !reflect.DeepEqual(got, want) {
			t.Fatalf("%+v over %v: %v, %d; want %v, %d", p, in, got, err, want, wantErr)
		}
		if testkit.SharesMemory(relation(got), memory...) || !reflect.DeepEqual(testkit.Whole(memory...), before) {
			t.Fatalf("%+v over %v shares memory or changes it: %v", p, in, got)
		}
		seen.Add(p, err)
	}
	seen.Check(t, api.OK, api.ErrRange, api.ErrKind, api.ErrInvalid)
}

// TestRelations compares the pairs that Related finds with those of package tjoin.
func TestRelations(t *testing.T) {
	m, seen := testkit.New(5), map[int]int{}
	for range 20000 {
		in := make([]api.Given, 2)
		for i := range in {
			kinds := m.Kinds(2)
			in[i] = api.Given{Kinds: kinds, Versions: history(m, kinds, 6)}
			for k := range in[i].Versions {
				if !period.Valid(in[i].Versions[k].Valid) {
					in[i].Versions[k].Valid = m.Period()
				}
			}
		}
		rel := m.Below(api.Relations+2) - 1
		a := len(in[0].Kinds)
		b := a + api.Bounds + len(in[1].Kinds)
		p := plan(api.PlanJoin, api.Plan{Pred: nonseq.Related(rel, a, b)}, scan(0), scan(1))
		got, err := nonseq.Run(p, in)
		want := tjoin.Match(nonseq.Facts(in[0].Versions), nonseq.Facts(in[1].Versions), rel)
		if known := rel >= 0 && rel < api.Relations; err != api.OK && known || len(got.Rows) != len(want) {
			t.Fatalf("relation %d of %v: %v, %d; want %v", rel, in, got, err, want)
		}
		seen[rel] += len(want)
	}
	for rel := range api.Relations {
		if seen[rel] < 200 {
			t.Error("too few pairs", seen)
		}
	}
}

// TestAnyArguments calls the functions with arguments for which nothing is promised but that they return.
func TestAnyArguments(t *testing.T) {
	m := &testkit.Planner{Maker: testkit.New(6)}
	for range 10000 {
		m.In = [][]int{m.Kinds(7), m.Kinds(7)}
		var in []api.Given
		for range 2 {
			r := m.AnyRelation(4)
			g := api.Given{Kinds: r.Kinds}
			for _, f := range r.Facts {
				g.Versions = append(g.Versions, api.Version{Row: f.Row, Valid: f.Valid, System: m.AnyPeriod(), By: m.AnyNumber()})
			}
			in = append(in, g)
		}
		c := api.Clause{Kind: m.AnyNumber(), From: m.AnyNumber(), To: m.AnyNumber()}
		for _, g := range in {
			got := nonseq.Rows(g.Kinds, g.Versions)
			if len(got.Kinds) != len(g.Kinds)+api.Bounds || !slices.IsSortedFunc(got.Rows, tuple.Compare) {
				t.Fatalf("Rows of %v: %v", g, got)
			}
			if !coalesce.Canonical(nonseq.Slice(g.Versions, c.From)) || len(nonseq.Facts(g.Versions)) != len(g.Versions) {
				t.Fatal(g)
			}
			nonseq.Select(g.Versions, c)
		}
		p, _ := m.Plan(1 + m.Below(3))
		m.Damage(&p)
		nonseq.Run(p, in)
		if e := nonseq.Related(c.Kind, c.From, c.To); len(e.Args) != 4 {
			t.Fatal(e)
		}
	}
}

// TestManyVersions checks that time does not grow with the square of the number of versions.
func TestManyVersions(t *testing.T) {
	const n = 100000
	var l []api.Version
	for k := range n {
		l = append(l, version(k+1, fact(k%97, k%97+5+k%3, k*7919%n/2), k, min(k+n/2, forever), k))
	}
	start := time.Now()
	if got := nonseq.Slice(l, n/2); len(got) < n/4 {
		t.Error(len(got))
	}
	if got := nonseq.Select(l, api.Clause{Kind: api.ClauseBetween, From: n / 2, To: n}); len(got) != n-1 {
		t.Error(len(got))
	}
	equal := testkit.Operation(api.OpEq, testkit.Column(0), testkit.Column(6))
	in := []api.Given{{Kinds: []int{kInt}, Versions: l}}
	if got, err := nonseq.Run(plan(api.PlanJoin, api.Plan{Pred: equal}, scan(0), scan(0)), in); err != api.OK || len(got.Rows) < n {
		t.Error(len(got.Rows), err)
	}
	if took := time.Since(start); took > 10*time.Second {
		t.Error("it took", took)
	}
}
