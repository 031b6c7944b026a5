package snapshot_test

import (
	"reflect"
	"slices"
	"testing"

	"bitemporal/api"
	"bitemporal/snapshot"
	"bitemporal/testkit"
	"bitemporal/tuple"
)

// isBag reports whether a bag has these kinds, and these rows in ascending order.
func isBag(b api.Bag, kinds []int, rows [][]api.Value) bool {
	if !slices.Equal(b.Kinds, kinds) || len(b.Rows) != len(rows) || !slices.IsSortedFunc(b.Rows, tuple.Compare) {
		return false
	}
	for _, row := range b.Rows {
		if occurs(row, b.Rows) != occurs(row, rows) || !tuple.Fits(row, kinds) {
			return false
		}
	}
	return true
}

// run compares what Check and Run return with the model, and returns the result and the error.
func run(t *testing.T, p api.Plan, in []api.Bag) (api.Bag, api.Errno) {
	t.Helper()
	var kinds [][]int
	for _, b := range in {
		kinds = append(kinds, b.Kinds)
	}
	before := image(p, in)
	wantKinds, wantErr := checked(p, kinds)
	gotKinds, err := snapshot.Check(p, kinds)
	if err != wantErr || !slices.Equal(gotKinds, wantKinds) || sharesMemory(gotKinds, p, in) {
		t.Fatalf("Check of %+v over %v: %v, %d; want %v, %d", p, kinds, gotKinds, err, wantKinds, wantErr)
	}
	got, err := snapshot.Run(p, in)
	if err != wantErr || err != api.OK && (got.Kinds != nil || got.Rows != nil) {
		t.Fatalf("Run of %+v: %v, %d; want the error %d", p, got, err, wantErr)
	}
	if err == api.OK {
		if want := result(p, in); !isBag(got, wantKinds, want) {
			t.Fatalf("Run of %+v over %v: %v; want %v, %v", p, in, got, wantKinds, want)
		}
	}
	if sharesMemory(got, p, in) {
		t.Fatalf("Run of %+v shares memory: %v", p, got)
	}
	if !reflect.DeepEqual(before, image(p, in)) {
		t.Fatalf("an argument was changed: %+v, %v", p, in)
	}
	return got, err
}

// TestRandomPlans compares the results of random plans, some of which are damaged, with the model.
func TestRandomPlans(t *testing.T) {
	m, seen := newMaker(1), testkit.NewCensus()
	for i := range 16000 {
		m.In = make([][]int, m.Below(3))
		for j := range m.In {
			m.In[j] = m.Kinds([]int{3, 14}[m.Below(8)/7])
		}
		in := m.bags([]int{2, 5, 9}[m.Below(3)])
		p, _ := m.Plan(1 + m.Below(4))
		if i%3 == 0 {
			m.Damage(&p)
		}
		if testkit.MostRows(p, rowsIn(in)) > 250 {
			continue
		}
		_, err := run(t, p, in)
		seen.Add(p, err)
	}
	seen.Check(t, api.OK, api.ErrRange, api.ErrKind, api.ErrInvalid, api.ErrColumns)
}

// TestFunctionsAgreeWithRun compares the functions for operators with Run of a plan with the operator, and thus with the model.
func TestFunctionsAgreeWithRun(t *testing.T) {
	m := newMaker(2)
	for range 2500 {
		m.In = [][]int{m.Kinds(4)}
		m.In = append(m.In, m.In[0], m.Kinds(4))
		in := m.bags(7)
		a, b, c := in[0], in[1], in[2]
		before := image(in)
		scans := []api.Plan{{Op: api.PlanScan}, {Op: api.PlanScan, Int: 1}, {Op: api.PlanScan, Int: 2}}
		compare := func(got api.Bag, p api.Plan, inputs ...api.Plan) {
			t.Helper()
			p.Inputs = inputs
			want, err := run(t, p, in)
			if err != api.OK || !reflect.DeepEqual(got.Kinds, want.Kinds) || !slices.EqualFunc(got.Rows, want.Rows, slices.Equal) {
				t.Fatalf("%+v over %v: %v; want %v, %d", p, in, got, want, err)
			}
			if sharesMemory(got, in, p) {
				t.Fatalf("the result for %+v shares memory: %v", p, got)
			}
		}
		e := m.Predicate(a.Kinds, nil)
		compare(snapshot.Filter(a, e), api.Plan{Op: api.PlanFilter, Pred: e}, scans[0])
		l := m.Projection(scans[0], a.Kinds, m.Kinds(4)).Exprs
		compare(snapshot.Project(a, l), api.Plan{Op: api.PlanProject, Exprs: l}, scans[0])
		e = m.Predicate(a.Kinds, c.Kinds)
		compare(snapshot.Join(a, c, e, false), api.Plan{Op: api.PlanJoin, Pred: e}, scans[0], scans[2])
		compare(snapshot.Join(a, c, e, true), api.Plan{Op: api.PlanLeft, Pred: e}, scans[0], scans[2])
		compare(snapshot.Union(a, b), api.Plan{Op: api.PlanUnion}, scans[0], scans[1])
		compare(snapshot.Except(a, b), api.Plan{Op: api.PlanExcept}, scans[0], scans[1])
		compare(snapshot.Intersect(a, b), api.Plan{Op: api.PlanIntersect}, scans[0], scans[1])
		compare(snapshot.Union(a, a), api.Plan{Op: api.PlanUnion}, scans[0], scans[0])
		compare(snapshot.Intersect(a, a), api.Plan{Op: api.PlanIntersect}, scans[0], scans[0])
		compare(snapshot.Distinct(a), api.Plan{Op: api.PlanDistinct}, scans[0])
		p, _ := m.Group(scans[0], a.Kinds)
		compare(snapshot.Group(a, p.Keys, p.Aggs), p, scans[0])
		if !reflect.DeepEqual(before, image(in)) {
			t.Fatalf("an argument was changed: %v", in)
		}
	}
}

// TestSameAgreesWithTheDefinition compares Same for random bags with their numbers of rows.
func TestSameAgreesWithTheDefinition(t *testing.T) {
	m, seen := newMaker(3), map[bool]int{}
	for range 20000 {
		m.In = [][]int{m.Kinds(1), m.Kinds(2)}
		m.In = append(m.In, m.In[0])
		in := m.bags(4)
		if m.Chance(3) {
			in[2].Rows = shuffled(m, in[0].Rows)
		}
		if m.Chance(9) {
			in[2].Kinds = m.Kinds(3)
		}
		for _, other := range in[1:] {
			want := true
			for _, row := range slices.Concat(in[0].Rows, other.Rows) {
				want = want && occurs(row, in[0].Rows) == occurs(row, other.Rows)
			}
			seen[want]++
			if snapshot.Same(in[0], other) != want || snapshot.Same(other, in[0]) != want {
				t.Fatal(in[0], other, want)
			}
		}
	}
	if seen[true] < 5000 || seen[false] < 5000 {
		t.Error(seen)
	}
}

// shuffled returns the rows of a list in another order.
func shuffled(m *maker, l [][]api.Value) [][]api.Value {
	l = slices.Clone(l)
	for i := range l {
		j := m.Below(i + 1)
		l[i], l[j] = l[j], l[i]
	}
	return l
}

// TestConsequences checks the laws of the chapter for random bags.
func TestConsequences(t *testing.T) {
	m := newMaker(4)
	for range 4000 {
		m.In = [][]int{m.Kinds(3)}
		m.In = append(m.In, m.In[0])
		in := m.bags(8)
		a, b := in[0], in[1]
		e := m.Predicate(a.Kinds, nil)
		same := func(name string, x, y api.Bag) {
			t.Helper()
			if !snapshot.Same(x, y) {
				t.Fatalf("%s: %v, %v from %v, %v and %+v", name, x, y, a, b, e)
			}
		}
		same("Except and Intersect", snapshot.Union(snapshot.Except(a, b), snapshot.Intersect(a, b)), a)
		same("Filter and Union", snapshot.Filter(snapshot.Union(a, b), e), snapshot.Union(snapshot.Filter(a, e), snapshot.Filter(b, e)))
		same("Filter and Distinct", snapshot.Filter(snapshot.Distinct(a), e), snapshot.Distinct(snapshot.Filter(a, e)))
		same("Distinct and Union", snapshot.Distinct(snapshot.Union(a, b)), snapshot.Distinct(snapshot.Union(snapshot.Distinct(a), snapshot.Distinct(b))))
		keys := []int{m.Below(len(a.Kinds))}
		for m.Chance(2) {
			keys = append(keys, m.Below(len(a.Kinds)))
		}
		var columns []api.Expr
		for _, k := range keys {
			columns = append(columns, column(k))
		}
		same("Group without aggregates", snapshot.Group(a, keys, nil), snapshot.Distinct(snapshot.Project(a, columns)))
		n := 0
		for _, row := range snapshot.Group(a, keys, []api.Agg{{Op: api.AggCount, Arg: -1}}).Rows {
			n += row[len(row)-1].Int
		}
		if n != len(a.Rows) {
			t.Fatalf("groups of %v by %v have %d rows", a, keys, n)
		}
	}
}

// TestOrderOfInputs checks that the result does not depend on the order of the rows of the inputs.
func TestOrderOfInputs(t *testing.T) {
	m := newMaker(5)
	for range 4000 {
		m.In = [][]int{m.Kinds(3), m.Kinds(3)}
		in := m.bags(6)
		p, _ := m.Plan(3)
		if testkit.MostRows(p, rowsIn(in)) > 250 {
			continue
		}
		want, wantErr := snapshot.Run(p, in)
		for i := range in {
			in[i].Rows = shuffled(m, in[i].Rows)
		}
		if got, err := snapshot.Run(p, in); err != wantErr || !reflect.DeepEqual(got, want) {
			t.Fatalf("%+v: %v, %d; want %v, %d", p, got, err, want, wantErr)
		}
	}
}

// TestAnyArguments calls the functions with arguments for which nothing is promised but that they return.
func TestAnyArguments(t *testing.T) {
	m := newMaker(6)
	number := func() int { return []int{-1 << 63, 1<<63 - 1, -1, 0, 1, 2, 3, 4, 5, 99}[m.Below(10)] }
	numbers := func() []int {
		var l []int
		for m.Below(4) > 0 {
			l = append(l, number())
		}
		return l
	}
	bag := func() api.Bag {
		b := api.Bag{Kinds: numbers(), Rows: m.Rows(m.Kinds(4), 3)}
		for m.Chance(2) {
			b.Rows = append(b.Rows, m.Rows(m.Kinds(4), 1)...)
			b.Rows = append(b.Rows, []api.Value{{Kind: number(), Int: number(), Text: "\x00"}}, nil)
		}
		return b
	}
	expression := func() api.Expr {
		e := m.Predicate(m.Kinds(4), m.Kinds(4))
		if m.Chance(3) {
			e.Op, e.Int = number(), number()
		}
		if m.Chance(5) {
			e = operation(api.OpEq, column(number()), column(number()))
		}
		return e
	}
	for range 20000 {
		a, b := bag(), bag()
		l := []api.Agg{{Op: number(), Arg: number()}, {Op: m.Below(5), Arg: number()}}
		for _, got := range []api.Bag{
			snapshot.Filter(a, expression()), snapshot.Project(a, []api.Expr{expression(), column(m.Below(3))}),
			snapshot.Join(a, b, expression(), m.Chance(2)), snapshot.Union(a, b), snapshot.Except(a, b),
			snapshot.Intersect(a, b), snapshot.Distinct(a), snapshot.Group(a, numbers(), l), snapshot.Group(a, nil, nil),
		} {
			if !slices.IsSortedFunc(got.Rows, tuple.Compare) || sharesMemory(got, a, b) {
				t.Fatal(got, a, b)
			}
		}
		if !snapshot.Same(a, a) {
			t.Fatal(a)
		}
		m.In = [][]int{m.Kinds(3), m.Kinds(3)}
		p, _ := m.Plan(3)
		m.Damage(&p)
		in := []api.Bag{{Kinds: m.In[0], Rows: a.Rows}, {Kinds: m.In[1], Rows: b.Rows}, a}
		got, err := snapshot.Run(p, in)
		if kinds, wantErr := snapshot.Check(p, [][]int{m.In[0], m.In[1], a.Kinds}); err != wantErr || !slices.Equal(got.Kinds, kinds) {
			t.Fatalf("%+v: %v, %d; want %v, %d", p, got, err, kinds, wantErr)
		}
	}
}
