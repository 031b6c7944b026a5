package coalesce_test

import (
	"slices"
	"testing"

	"bitemporal/api"
	"bitemporal/coalesce"
	"bitemporal/steps"
	"bitemporal/tuple"
)

const forever = api.Forever

func row(n int) []api.Value { return []api.Value{{Kind: api.KindInt, Int: n}} }

func fact(n, from, to int) api.Fact {
	return api.Fact{Row: row(n), Valid: api.Period{From: from, To: to}}
}

// facts returns facts with the row (1): each two numbers are a period.
func facts(bounds ...int) []api.Fact {
	var l []api.Fact
	for i := 0; i < len(bounds); i += 2 {
		l = append(l, fact(1, bounds[i], bounds[i+1]))
	}
	return l
}

func TestBagAndSet(t *testing.T) {
	for i, x := range []struct{ l, bag, set []api.Fact }{
		{nil, nil, nil},
		{facts(0, 5, 5, 8, 2, 3), facts(0, 8, 2, 3), facts(0, 8)},
		{facts(2, 3), facts(2, 3), facts(2, 3)},
		{facts(0, forever), facts(0, forever), facts(0, forever)},
		{facts(3, forever, 0, 3), facts(0, forever), facts(0, forever)},
		{facts(3, 8, 0, 5), facts(0, 8, 3, 5), facts(0, 8)},
		{facts(0, 5, 6, 8), facts(0, 5, 6, 8), facts(0, 5, 6, 8)},
		{facts(6, 8, 0, 5), facts(0, 5, 6, 8), facts(0, 5, 6, 8)},
		{facts(0, 5, 0, 5, 0, 5), facts(0, 5, 0, 5, 0, 5), facts(0, 5)},
		{facts(0, 3, 0, 5, 0, 5), facts(0, 3, 0, 5, 0, 5), facts(0, 5)},
		{facts(0, 4, 4, 6, 2, 4), facts(0, 6, 2, 4), facts(0, 6)},
		{facts(0, 4, 2, 4, 4, 6, 4, 5), facts(0, 6, 2, 5), facts(0, 6)},
		{facts(4, 4, 5, 3, -1, 4, 0, forever+1, -5, -2), nil, nil},
		{facts(4, 4, 1, 2, -1, 4), facts(1, 2), facts(1, 2)},
		{
			[]api.Fact{fact(3, 0, 2), fact(1, 5, 9), fact(3, 2, 4), fact(-2, 0, 1), fact(1, 0, 2)},
			[]api.Fact{fact(-2, 0, 1), fact(1, 0, 2), fact(1, 5, 9), fact(3, 0, 4)},
			[]api.Fact{fact(-2, 0, 1), fact(1, 0, 2), fact(1, 5, 9), fact(3, 0, 4)},
		},
	} {
		if got := coalesce.Bag(x.l); !identical(got, x.bag) {
			t.Errorf("case %d: Bag is %v, want %v", i, got, x.bag)
		}
		if got := coalesce.Set(x.l); !identical(got, x.set) {
			t.Errorf("case %d: Set is %v, want %v", i, got, x.set)
		}
		if got := coalesce.Canonical(x.l); got != identical(x.l, x.bag) {
			t.Errorf("case %d: Canonical is %t", i, got)
		}
		if !coalesce.Canonical(x.bag) || !coalesce.Canonical(x.set) {
			t.Errorf("case %d: the canonical form is not canonical", i)
		}
	}
}

// TestRows checks that rows are the same only if all fields of their values are, and that they are in ascending order.
func TestRows(t *testing.T) {
	rows := tuple.Sort(someRows())
	var l, want []api.Fact
	for i := range rows {
		last := rows[len(rows)-1-i]
		l = append(l, api.Fact{Row: last, Valid: api.Period{From: 1, To: 5}}, api.Fact{Row: last, Valid: api.Period{From: 5, To: 9}})
		want = append(want, api.Fact{Row: rows[i], Valid: api.Period{From: 1, To: 9}})
	}
	if got := coalesce.Bag(l); !identical(got, want) {
		t.Errorf("%v, want %v", got, want)
	}
	if got := coalesce.Set(l); !identical(got, want) {
		t.Errorf("%v, want %v", got, want)
	}
	if got := coalesce.At(l, 5); !equalRows(got, rows) {
		t.Errorf("%v, want %v", got, rows)
	}
	if empty := []api.Fact{{Row: []api.Value{}, Valid: api.Period{From: 1, To: 2}}}; !coalesce.Canonical(empty) || !coalesce.Same(empty, []api.Fact{{Valid: api.Period{From: 1, To: 2}}}) {
		t.Error("a row without columns may be nil or not")
	}
}

func TestCanonical(t *testing.T) {
	for i, x := range []struct {
		l    []api.Fact
		want bool
	}{
		{nil, true},
		{[]api.Fact{}, true},
		{facts(0, 8, 2, 3), true},
		{facts(2, 3, 0, 8), false},
		{facts(0, 5, 5, 8), false},
		{facts(0, 5, 3, 8), false},
		{facts(0, 5, 0, 8), true},
		{facts(0, 8, 0, 5), false},
		{facts(1, 1), false},
		{facts(0, 8, 1, 1), false},
		{[]api.Fact{fact(1, 0, 4), fact(2, 0, 4)}, true},
		{[]api.Fact{fact(2, 0, 4), fact(1, 0, 4)}, false},
		{[]api.Fact{fact(1, 4, 8), fact(2, 0, 4)}, true},
		{[]api.Fact{fact(1, 0, 4), fact(2, 0, 4), fact(1, 6, 8)}, false},
	} {
		if got := coalesce.Canonical(x.l); got != x.want {
			t.Errorf("case %d: %t", i, got)
		}
	}
}

func TestAtAndCounts(t *testing.T) {
	l := []api.Fact{fact(2, 4, forever), fact(1, 0, 5), fact(1, 5, 8), fact(1, 2, 3), fact(1, 3, 3), fact(0, 7, 2), fact(1, 7, forever+1)}
	for at, want := range map[int][][]api.Value{
		-1: nil, 0: {row(1)}, 2: {row(1), row(1)}, 3: {row(1)}, 4: {row(1), row(2)}, 5: {row(1), row(2)}, 7: {row(1), row(2)}, 8: {row(2)},
		forever - 1: {row(2)}, forever: nil, 1<<63 - 1: nil, -1 << 63: nil,
	} {
		if got := coalesce.At(l, at); !equalRows(got, want) {
			t.Errorf("At %d: %v, want %v", at, got, want)
		}
	}
	for n, want := range map[int][]api.Step{
		0: {{}},
		1: {{From: 0, N: 1}, {From: 2, N: 2}, {From: 3, N: 1}, {From: 8, N: 0}},
		2: {{From: 0, N: 0}, {From: 4, N: 1}},
		3: {{}},
	} {
		if got := coalesce.Counts(l, row(n)); !slices.Equal(got, want) {
			t.Errorf("Counts of %d: %v, want %v", n, got, want)
		}
	}
	for _, other := range [][]api.Value{nil, {}, {{}}, append(row(1), api.Value{}), {{Kind: api.KindText, Int: 1}}, {{Kind: api.KindInt, Int: 1, Text: "x"}}} {
		if got := coalesce.Counts(l, other); !slices.Equal(got, []api.Step{{}}) {
			t.Errorf("Counts of %v: %v", other, got)
		}
	}
	if got := coalesce.At(nil, 0); len(got) != 0 {
		t.Error(got)
	}
	if got := coalesce.Counts(nil, nil); !slices.Equal(got, []api.Step{{}}) {
		t.Error(got)
	}
	if got := coalesce.Counts([]api.Fact{{Valid: api.Period{From: 3, To: 4}}}, []api.Value{}); !slices.Equal(got, []api.Step{{}, {From: 3, N: 1}, {From: 4}}) {
		t.Error(got)
	}
}

func TestSame(t *testing.T) {
	for i, x := range []struct {
		a, b []api.Fact
		want bool
	}{
		{nil, nil, true},
		{nil, facts(3, 3, 4, 1, -1, 5), true},
		{nil, facts(0, 1), false},
		{facts(0, 5, 5, 8, 2, 3), facts(2, 8, 0, 3), true},
		{facts(0, 5, 3, 8), facts(0, 8, 3, 5), true},
		{facts(0, 5, 3, 8), facts(0, 8), false},
		{facts(0, 8, 0, 8), facts(0, 8), false},
		{facts(0, 8), facts(0, 9), false},
		{facts(1, 8), facts(0, 8), false},
		{facts(0, 3, 4, 8), facts(0, 8), false},
		{facts(0, 3), []api.Fact{fact(2, 0, 3)}, false},
		{facts(0, 3), []api.Fact{fact(1, 0, 3), fact(2, 0, 3)}, false},
		{[]api.Fact{fact(2, 0, 3), fact(1, 0, 3)}, []api.Fact{fact(1, 0, 3), fact(2, 0, 3)}, true},
		{[]api.Fact{fact(2, 0, 3), fact(1, 0, 4)}, []api.Fact{fact(1, 0, 3), fact(2, 0, 4)}, false},
	} {
		if coalesce.Same(x.a, x.b) != x.want || coalesce.Same(x.b, x.a) != x.want {
			t.Error("case", i)
		}
	}
}

func TestRestrict(t *testing.T) {
	l := append(facts(0, 5, 5, 8, 2, 3, 9, 9), fact(0, 4, forever))
	for i, x := range []struct {
		from, to int
		want     []api.Fact
	}{
		{2, 6, []api.Fact{fact(0, 4, 6), fact(1, 2, 3), fact(1, 2, 6)}},
		{0, 2, facts(0, 2)},
		{0, forever, []api.Fact{fact(0, 4, forever), fact(1, 0, 8), fact(1, 2, 3)}},
		{8, 9, []api.Fact{fact(0, 8, 9)}},
		{forever - 1, forever, []api.Fact{fact(0, forever-1, forever)}},
		{3, 3, nil},
		{3, 2, nil},
		{-1, 5, nil},
		{0, forever + 1, nil},
		{-1 << 63, 1<<63 - 1, nil},
	} {
		if got := coalesce.Restrict(l, api.Period{From: x.from, To: x.to}); !identical(got, x.want) {
			t.Errorf("case %d: %v, want %v", i, got, x.want)
		}
	}
	if got := coalesce.Restrict(nil, api.Period{From: 0, To: 1}); len(got) != 0 {
		t.Error(got)
	}
}

func TestPoints(t *testing.T) {
	for i, x := range []struct {
		l    []api.Fact
		want []int
	}{
		{nil, []int{0}},
		{facts(0, forever), []int{0}},
		{facts(3, forever), []int{0, 3}},
		{facts(0, 5, 5, 8, 2, 3), []int{0, 2, 3, 5, 8}},
		{[]api.Fact{fact(2, 7, 9), fact(1, 1, 7)}, []int{0, 1, 7, 9}},
		{facts(3, 3, 9, 2, -4, 6, 8, forever+1), []int{0}},
		{facts(forever-1, forever, 5, forever-1), []int{0, 5, forever - 1}},
	} {
		if got := coalesce.Points(x.l); !slices.Equal(got, x.want) {
			t.Errorf("case %d: %v, want %v", i, got, x.want)
		}
	}
}

// TestManyFacts would take minutes if time grew with the square of the number of facts, or of the counts.
func TestManyFacts(t *testing.T) {
	const n = 100000
	var different, equal, chained []api.Fact
	for i := range n {
		different = append(different, fact(i*7%n, i, i+1))
		equal = append(equal, fact(1, 5, 9))
		chained = append(chained, fact(1, i, i+3))
	}
	if got := coalesce.Bag(different); len(got) != n || got[7].Row[0].Int != 7 || got[7].Valid.From != 1 {
		t.Error("different facts")
	}
	if got := coalesce.Bag(equal); !identical(got, equal) {
		t.Error("equal facts")
	}
	if got := coalesce.Set(equal); !identical(got, facts(5, 9)) {
		t.Error("equal facts without duplicates", got)
	}
	if got := coalesce.Bag(chained); !identical(got, facts(0, n+2, 1, n+1, 2, n)) {
		t.Error("chained facts", len(got))
	}
	if !coalesce.Same(chained, facts(0, n+2, 1, n+1, 2, n)) || coalesce.Same(chained, different) {
		t.Error("Same")
	}
	if got := coalesce.Counts(chained, row(1)); len(got) != 6 || steps.At(got, n) != 2 {
		t.Error("Counts", got)
	}
}

// TestCountsAboveTheLevels checks that counts may be greater than the greatest number of which steps.Levels returns the periods.
func TestCountsAboveTheLevels(t *testing.T) {
	const most = 1 << 20
	l := slices.Repeat(facts(5, 9), most+2)
	if got := coalesce.Bag(l); len(got) != most {
		t.Error("Bag", len(got))
	}
	if coalesce.Canonical(l) || !coalesce.Canonical(l[2:]) || coalesce.Same(l, l[1:]) || !coalesce.Same(l, slices.Clone(l)) {
		t.Error("Canonical or Same")
	}
	if got := coalesce.Counts(l, row(1)); len(got) != 3 || got[1].N != most+2 || len(coalesce.At(l, 8)) != most+2 {
		t.Error("Counts or At", got)
	}
}
