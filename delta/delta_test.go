package delta_test

import (
	"math"
	"reflect"
	"slices"
	"testing"

	"bitemporal/api"
	"bitemporal/delta"
	"bitemporal/testkit"
)

const forever = api.Forever

func fact(n, from, to int) api.Fact { return testkit.Fact(from, to, n) }

// open returns a version of (n) during [from, to) that transaction 1 opened at 10.
func open(id, n, from, to int) api.Version {
	return api.Version{ID: id, Row: testkit.Row(n), Valid: api.Period{From: from, To: to}, System: api.Period{From: 10, To: forever}, By: 1}
}

// closed returns the same version, which transaction 2 closed at 20.
func closed(id, n, from, to int) api.Version {
	v := open(id, n, from, to)
	v.System.To, v.Until = 20, 2
	return v
}

// believed returns a version with another system period.
func believed(v api.Version, from, to int) api.Version {
	v.System = api.Period{From: from, To: to}
	return v
}

func same(a, b []api.Version) bool {
	return len(a)+len(b) == 0 || reflect.DeepEqual(a, b)
}

func TestExamples(t *testing.T) {
	l := []api.Version{open(1, 1, 0, 8), open(2, 2, 0, 4)}
	to := []api.Fact{fact(1, 0, 8), fact(2, 0, 2), fact(3, 5, 6)}
	ids, facts := delta.Between(l, to)
	if !slices.Equal(ids, []int{2}) || !testkit.Identical(facts, to[1:]) || delta.Size(l, to) != 3 {
		t.Error(ids, facts, delta.Size(l, to))
	}
	got, err := delta.Apply(l, ids, facts, api.Commit{Time: 20, Tx: 2}, 3, 0)
	three, four := believed(open(3, 2, 0, 2), 20, forever), believed(open(4, 3, 5, 6), 20, forever)
	three.By, four.By = 2, 2
	if err != api.OK || !same(got, []api.Version{l[0], closed(2, 2, 0, 4), three, four}) {
		t.Error(got, err)
	}
	if none, err := delta.Apply(l, ids, facts, api.Commit{Time: 10, Tx: 2}, 3, 0); len(none) != 0 || err != api.ErrRange {
		t.Error(none, err)
	}
	if u := delta.Undo(got, 2); !same(u, l) {
		t.Error(u)
	}
}

func TestFacts(t *testing.T) {
	for i, c := range []struct {
		l    []api.Version
		want []api.Fact
	}{
		{nil, nil},
		{[]api.Version{open(1, 1, 0, 5), open(2, 1, 5, 8), open(3, 1, 2, 3)}, []api.Fact{fact(1, 0, 8), fact(1, 2, 3)}},
		{[]api.Version{open(2, 3, 0, 5), open(1, 1, 5, 8)}, []api.Fact{fact(1, 5, 8), fact(3, 0, 5)}},
		{[]api.Version{closed(1, 1, 0, 5), open(2, 1, 5, 8)}, []api.Fact{fact(1, 5, 8)}},
		{[]api.Version{open(1, 1, 0, 5), open(1, 1, 0, 5)}, []api.Fact{fact(1, 0, 5), fact(1, 0, 5)}},
		{[]api.Version{open(1, 1, 3, 3), open(0, 2, 0, 1), open(-1, 3, 0, forever+1)}, []api.Fact{fact(2, 0, 1)}},
		{[]api.Version{believed(open(1, 1, 0, 5), forever, forever), believed(open(1, 2, 0, 5), -1, forever)}, nil},
		{[]api.Version{believed(open(1, 1, 0, 5), 0, forever+1), believed(open(1, 2, 0, 5), math.MaxInt, forever)}, nil},
		{[]api.Version{believed(open(1, 1, 0, 5), 0, forever-1), believed(open(1, 2, 0, 5), math.MinInt, math.MaxInt)}, nil},
		{[]api.Version{believed(open(1, 1, 0, 5), 0, forever), believed(open(2, 1, 5, 6), forever-1, forever)}, []api.Fact{fact(1, 0, 6)}},
	} {
		if got := delta.Facts(c.l); !testkit.Identical(got, c.want) {
			t.Error("case", i, got)
		}
	}
	// A version that is open has its fact, whatever else it says of itself.
	if got := delta.Facts([]api.Version{{Until: 7, Schema: -1, Valid: api.Period{From: 0, To: 1}, System: api.Period{From: 0, To: forever}}}); len(got) != 1 {
		t.Error(got)
	}
}

func TestBetween(t *testing.T) {
	text := open(7, 1, 0, 8)
	text.Row = testkit.Row("1")
	null := open(8, 1, 0, 8)
	null.Row = testkit.Row(nil)
	one := fact(1, 0, 8)
	for i, c := range []struct {
		l     []api.Version
		to    []api.Fact
		ids   []int
		facts []api.Fact
	}{
		{nil, nil, nil, nil},
		{nil, []api.Fact{one}, nil, []api.Fact{one}},
		{nil, []api.Fact{one, one}, nil, []api.Fact{one, one}},
		{nil, []api.Fact{fact(1, 0, 5), fact(2, 3, 4), fact(1, 5, 8), fact(1, 2, 3)}, nil, []api.Fact{one, fact(1, 2, 3), fact(2, 3, 4)}},
		{nil, []api.Fact{fact(3, 0, 4), fact(1, 6, 8), fact(-1, 7, 8), fact(1, 0, 5)}, nil, []api.Fact{fact(-1, 7, 8), fact(1, 0, 5), fact(1, 6, 8), fact(3, 0, 4)}},
		{nil, []api.Fact{fact(1, 4, 4), fact(1, -1, 4), fact(1, 0, forever+1)}, nil, nil},
		{[]api.Version{open(1, 1, 0, 8)}, nil, []int{1}, nil},
		{[]api.Version{open(1, 1, 0, 8)}, []api.Fact{one}, nil, nil},
		{[]api.Version{open(1, 1, 0, 8)}, []api.Fact{fact(1, 0, 5), fact(1, 5, 8)}, nil, nil},
		{[]api.Version{open(1, 1, 0, 8)}, []api.Fact{one, one}, nil, []api.Fact{one}},
		{[]api.Version{open(1, 1, 0, 8)}, []api.Fact{fact(1, 0, 9)}, []int{1}, []api.Fact{fact(1, 0, 9)}},
		{[]api.Version{open(1, 1, 0, 8)}, []api.Fact{fact(1, 1, 8)}, []int{1}, []api.Fact{fact(1, 1, 8)}},
		{[]api.Version{open(1, 1, 0, 8)}, []api.Fact{fact(2, 0, 8)}, []int{1}, []api.Fact{fact(2, 0, 8)}},
		{[]api.Version{open(1, 1, 0, 5), open(2, 1, 5, 8)}, []api.Fact{one}, []int{1, 2}, []api.Fact{one}},
		{[]api.Version{open(1, 1, 0, 5), open(2, 1, 5, 8)}, []api.Fact{fact(1, 0, 5), fact(1, 5, 8)}, []int{1, 2}, []api.Fact{one}},
		{[]api.Version{open(5, 1, 0, 8), open(3, 1, 0, 8), open(9, 1, 0, 8), open(4, 1, 0, 8)}, []api.Fact{one, one}, []int{5, 9}, nil},
		{[]api.Version{open(9, 1, 0, 8), open(2, 2, 0, 8), open(5, 3, 0, 8)}, nil, []int{2, 5, 9}, nil},
		{[]api.Version{open(5, 1, 0, 8), open(-3, 1, 0, 8), open(0, 1, 0, 8)}, []api.Fact{one}, []int{0, 5}, nil},
		{[]api.Version{closed(1, 1, 0, 8), open(2, 2, 0, 8)}, []api.Fact{one}, []int{2}, []api.Fact{one}},
		{[]api.Version{closed(1, 1, 0, 8), open(1, 1, 0, 8), closed(1, 1, 0, 8)}, []api.Fact{one}, nil, nil},
		{[]api.Version{believed(open(1, 1, 0, 8), -1, forever), believed(open(2, 1, 0, 8), forever, forever)}, []api.Fact{one}, nil, []api.Fact{one}},
		{[]api.Version{believed(open(1, 1, 0, 8), 0, forever), believed(open(2, 1, 0, 8), 0, forever-1)}, nil, []int{1}, nil},
		{[]api.Version{text, null}, []api.Fact{one}, []int{7, 8}, []api.Fact{one}},
		{[]api.Version{text, null}, []api.Fact{testkit.Fact(0, 8, nil), one, testkit.Fact(0, 8, "1")}, nil, []api.Fact{one}},
		{[]api.Version{open(1, 1, 4, 4), open(2, 1, 0, 8)}, []api.Fact{one, fact(1, 4, 4)}, []int{1}, nil},
		{[]api.Version{open(math.MaxInt, 1, 0, 8), open(math.MinInt, 1, 0, 8)}, []api.Fact{one}, []int{math.MaxInt}, nil},
	} {
		ids, facts := delta.Between(c.l, c.to)
		if !slices.Equal(ids, c.ids) || !testkit.Identical(facts, c.facts) {
			t.Error("case", i, ids, facts)
		}
		if n := delta.Size(c.l, c.to); n != len(c.ids)+len(c.facts) {
			t.Error("case", i, n)
		}
	}
}

func TestApplyErrors(t *testing.T) {
	l := []api.Version{open(4, 1, 0, 8), closed(2, 2, 0, 4), believed(open(3, 3, 0, 8), 15, forever), open(1, 4, 0, 8), believed(open(7, 5, 0, 8), -1, forever), closed(1, 4, 0, 8)}
	bad := []api.Fact{fact(1, 5, 5)}
	for i, c := range []struct {
		ids  []int
		open []api.Fact
		time int
		want api.Errno
	}{
		{nil, nil, 0, api.OK}, {nil, nil, forever - 1, api.OK}, {[]int{}, []api.Fact{}, 5, api.OK},
		{nil, nil, -1, api.ErrRange}, {nil, nil, forever, api.ErrRange}, {nil, nil, math.MinInt, api.ErrRange}, {nil, nil, math.MaxInt, api.ErrRange},
		{[]int{9, 9}, bad, -1, api.ErrRange}, {[]int{9, 9}, bad, forever, api.ErrRange},
		{[]int{1, 3, 4}, nil, 20, api.OK}, {[]int{1, 4}, nil, 11, api.OK},
		{[]int{1, 1}, nil, 20, api.ErrOrder}, {[]int{3, 1}, nil, 20, api.ErrOrder}, {[]int{1, 4, 3}, bad, 20, api.ErrOrder},
		{[]int{4, 2}, nil, 20, api.ErrOrder}, {[]int{4, 3}, nil, 12, api.ErrOrder},
		{[]int{2}, nil, 20, api.ErrNotFound}, {[]int{5}, nil, 20, api.ErrNotFound}, {[]int{7}, nil, 20, api.ErrNotFound}, {[]int{0}, nil, 20, api.ErrNotFound},
		{[]int{1, 2, 1}, bad, 20, api.ErrNotFound}, {[]int{-1, 9, 9}, nil, 20, api.ErrNotFound}, {[]int{math.MinInt}, nil, 20, api.ErrNotFound},
		{[]int{1}, nil, 10, api.ErrRange}, {[]int{1}, nil, 0, api.ErrRange}, {[]int{1, 1}, bad, 10, api.ErrRange}, {[]int{1, 9}, nil, 9, api.ErrRange},
		{[]int{1, 3}, nil, 15, api.ErrRange}, {[]int{1, 3}, nil, 16, api.OK}, {[]int{1, 3, 9}, bad, 15, api.ErrRange}, {[]int{2, 3}, bad, 15, api.ErrNotFound},
		{[]int{1}, bad, 20, api.ErrInvalid}, {nil, bad, 20, api.ErrInvalid}, {nil, []api.Fact{fact(1, 0, 1), fact(1, -1, 1)}, 20, api.ErrInvalid},
		{nil, []api.Fact{fact(1, 0, forever+1), fact(1, 0, 1)}, 20, api.ErrInvalid}, {nil, []api.Fact{{}}, 20, api.ErrInvalid},
		{nil, []api.Fact{fact(1, 0, forever), fact(1, 0, 1)}, 0, api.OK},
	} {
		got, err := delta.Apply(l, c.ids, c.open, api.Commit{Time: c.time, Tx: 2}, 10, 0)
		if err != c.want || err != api.OK && len(got) != 0 || err == api.OK && len(got) != len(l)+len(c.open) {
			t.Error("case", i, got, err)
		}
	}
}

func TestApply(t *testing.T) {
	l := []api.Version{open(4, 1, 0, 8), closed(2, 2, 0, 4), open(1, 4, 0, 8), closed(1, 4, 0, 8), {ID: 9, By: -5, Until: 7, Schema: 2}}
	l[0].Schema = 3
	c := api.Commit{Tx: 44, Time: 30, Wall: 99, First: 1000, Deltas: []api.Delta{{Table: "t", Close: []int{1}}}}
	got, err := delta.Apply(l, []int{4}, []api.Fact{fact(5, 3, forever), {Valid: api.Period{From: 0, To: 1}}, fact(5, 3, forever)}, c, api.MaxNumber-2, 6)
	first := l[0]
	first.System.To, first.Until = 30, 44
	want := []api.Version{first, l[1], l[2], l[3], l[4]}
	for i, f := range []api.Fact{fact(5, 3, forever), {Valid: api.Period{From: 0, To: 1}}, fact(5, 3, forever)} {
		want = append(want, api.Version{ID: api.MaxNumber - 2 + i, Schema: 6, Row: f.Row, Valid: f.Valid, System: api.Period{From: 30, To: forever}, By: 44})
	}
	if err != api.OK || !same(got, want) {
		t.Error(got, err)
	}
	if got, err = delta.Apply(nil, nil, []api.Fact{fact(1, 0, 1)}, api.Commit{Tx: 1}, 0, 0); err != api.OK || len(got) != 1 || got[0].ID != 0 || got[0].System.From != 0 {
		t.Error(got, err)
	}
	if got, err = delta.Apply(l, nil, nil, c, 0, 0); err != api.OK || !same(got, l) {
		t.Error(got, err)
	}
	if got, err = delta.Apply(nil, nil, nil, api.Commit{}, 0, 0); err != api.OK || len(got) != 0 {
		t.Error(got, err)
	}
}

func TestUndo(t *testing.T) {
	kept, reopened, gone := closed(1, 1, 0, 8), closed(2, 2, 0, 8), open(5, 5, 0, 8)
	reopened.Until = 3
	gone.By = 4
	young := closed(3, 3, 0, 8)
	young.By, young.Until = 3, 4
	pruned := believed(open(4, 4, 0, 8), 10, 15)
	l := []api.Version{kept, reopened, young, pruned, gone}
	for tx, want := range map[int][]api.Version{
		1: nil,
		2: {open(1, 1, 0, 8), open(2, 2, 0, 8), pruned},
		3: {kept, open(2, 2, 0, 8), pruned},
		4: {kept, reopened, func(v api.Version) api.Version { v.System.To, v.Until = forever, 0; return v }(young), pruned},
		5: l, math.MaxInt: l,
	} {
		if got := delta.Undo(l, tx); !same(got, want) {
			t.Error(tx, got, want)
		}
	}
	if got := delta.Undo(nil, 1); len(got) != 0 {
		t.Error(got)
	}
}
