package delta_test

import (
	"reflect"
	"slices"
	"testing"
	"time"

	"bitemporal/api"
	"bitemporal/coalesce"
	"bitemporal/delta"
	"bitemporal/nonseq"
	"bitemporal/testkit"
	"bitemporal/tuple"
)

// versions returns a plain list of versions with rows of these kinds, in no order, some of which were never valid or believed, with spare capacity.
func versions(m *testkit.Maker, kinds []int, most int) []api.Version {
	var l []api.Version
	for i, f := range m.Relation(kinds, most).Facts {
		v := api.Version{ID: (i*7+3)%29 - 9, Schema: m.Below(3), Row: f.Row, Valid: f.Valid, System: api.Period{From: m.Below(5), To: forever}, By: 1 + m.Below(5)}
		switch m.Below(8) {
		case 0:
			v.Valid = m.AnyPeriod()
		case 1:
			v.System = m.AnyPeriod()
		case 2:
			v.System = m.Period()
		case 3:
			v.System.To, v.Until, v.ID = 6, 6+m.Below(3), m.Below(5)
		}
		l = append(l, v)
	}
	return append(l, api.Version{ID: -7})[:len(l)]
}

func isOpen(v api.Version) bool {
	return v.System.From >= 0 && v.System.From < forever && v.System.To == forever
}

func has(f api.Fact, row []api.Value, valid api.Period) bool {
	return f.Valid == valid && tuple.Equal(f.Row, row)
}

// count returns how often a fact occurs in a list.
func count(l []api.Fact, row []api.Value, valid api.Period) int {
	n := 0
	for _, f := range l {
		if has(f, row, valid) {
			n++
		}
	}
	return n
}

// between decides for each version and each fact by the definition: by its rank among the open versions, or the facts of the canonical form, that have the same fact.
func between(l []api.Version, to []api.Fact) (ids []int, facts []api.Fact) {
	canonical := coalesce.Bag(to)
	for _, v := range l {
		rank := 0
		for _, w := range l {
			if isOpen(w) && w.ID <= v.ID && has(api.Fact{Row: w.Row, Valid: w.Valid}, v.Row, v.Valid) {
				rank++
			}
		}
		if isOpen(v) && rank > count(canonical, v.Row, v.Valid) {
			ids = append(ids, v.ID)
		}
	}
	slices.Sort(ids)
	var all []api.Fact
	for _, v := range l {
		if isOpen(v) {
			all = append(all, api.Fact{Row: v.Row, Valid: v.Valid})
		}
	}
	for i, f := range canonical {
		if rank := count(canonical[:i+1], f.Row, f.Valid); rank > count(all, f.Row, f.Valid) {
			facts = append(facts, f)
		}
	}
	return ids, facts
}

// rowsOf returns a relation whose facts have the rows of versions and spare capacity, which is compared by testkit.
func rowsOf(l []api.Version) api.Relation {
	var r api.Relation
	for _, v := range l[:cap(l)] {
		r.Facts = append(r.Facts, api.Fact{Row: v.Row})
	}
	return r
}

// target returns facts, some of which are those of versions.
func target(m *testkit.Maker, kinds []int, l []api.Version) api.Relation {
	r := m.Relation(kinds, 4)
	for _, v := range l {
		for range m.Below(3) {
			r.Facts = append(r.Facts, api.Fact{Row: slices.Clone(v.Row), Valid: v.Valid})
		}
	}
	return m.Equivalent(r)
}

func TestBetweenAgreesWithTheDefinition(t *testing.T) {
	m := testkit.New(1)
	closes, opens, kept := 0, 0, 0
	for range 10000 {
		kinds := m.Kinds(2)
		l := versions(m, kinds, 12)
		to := target(m, kinds, l)
		before, all := testkit.Whole(to, rowsOf(l)), slices.Clone(l[:cap(l)])
		ids, facts := delta.Between(l, to.Facts)
		wantIDs, wantFacts := between(l, to.Facts)
		if !slices.Equal(ids, wantIDs) || !testkit.Identical(facts, wantFacts) || delta.Size(l, to.Facts) != len(ids)+len(facts) {
			t.Fatalf("%v to %v: %v, %v, want %v, %v", l, to, ids, facts, wantIDs, wantFacts)
		}
		if testkit.SharesMemory(api.Relation{Facts: facts}, to, rowsOf(l)) {
			t.Fatal("shared memory", l, to)
		}
		if !reflect.DeepEqual(testkit.Whole(to, rowsOf(l)), before) || !reflect.DeepEqual(l[:cap(l)], all) {
			t.Fatal("changed", l, to)
		}
		for _, f := range facts {
			if slices.ContainsFunc(l, func(v api.Version) bool { return has(f, v.Row, v.Valid) && slices.Contains(ids, v.ID) && isOpen(v) }) {
				t.Fatal("closed and opened again", l, to, f)
			}
		}
		closes, opens, kept = closes+len(ids), opens+len(facts), kept+len(l)-len(ids)
	}
	if closes < 5000 || opens < 5000 || kept < 5000 {
		t.Error("too few changes:", closes, opens, kept)
	}
}

func TestFactsAgreeWithTheBeliefAtTheEnd(t *testing.T) {
	m := testkit.New(2)
	for range 5000 {
		l := versions(m, m.Kinds(2), 10)
		before, all := testkit.Whole(rowsOf(l)), slices.Clone(l[:cap(l)])
		got := delta.Facts(l)
		if !testkit.Identical(got, nonseq.Slice(l, forever-1)) {
			t.Fatal(l, got)
		}
		if testkit.SharesMemory(api.Relation{Facts: got}, rowsOf(l)) || !reflect.DeepEqual(testkit.Whole(rowsOf(l)), before) || !reflect.DeepEqual(l[:cap(l)], all) {
			t.Fatal("changed or shared", l)
		}
	}
}

func TestApplyAgreesWithTheDefinition(t *testing.T) {
	m, applied := testkit.New(3), 0
	for range 5000 {
		kinds := m.Kinds(2)
		l := versions(m, kinds, 10)
		ids, facts := delta.Between(l, target(m, kinds, l).Facts)
		facts = append(facts, testkit.Fact(0, 1, 5))
		c, first, schema := api.Commit{Tx: 7, Time: 1000 + m.Below(2), Wall: 5}, m.Below(50), m.Below(3)
		if slices.ContainsFunc(l, func(v api.Version) bool { return v.System.From >= c.Time }) {
			continue
		}
		var want []api.Version
		for _, v := range l {
			if isOpen(v) && slices.Contains(ids, v.ID) {
				v.System.To, v.Until = c.Time, 7
			}
			want = append(want, v)
		}
		for i, f := range facts {
			want = append(want, api.Version{ID: first + i, Schema: schema, Row: f.Row, Valid: f.Valid, System: api.Period{From: c.Time, To: forever}, By: 7})
		}
		arguments := []api.Relation{rowsOf(l), {Facts: facts, Kinds: ids}}
		before, all := testkit.Whole(arguments...), slices.Clone(l[:cap(l)])
		got, err := delta.Apply(l, ids, facts, c, first, schema)
		if err != api.OK || !same(got, want) {
			t.Fatal(l, ids, facts, got, err)
		}
		if testkit.SharesMemory(rowsOf(got), arguments...) || sharesVersions(got, l) || !reflect.DeepEqual(testkit.Whole(arguments...), before) || !reflect.DeepEqual(l[:cap(l)], all) {
			t.Fatal("changed or shared", l, ids, facts)
		}
		applied += len(ids)
	}
	if applied < 3000 {
		t.Error("too few versions are closed:", applied)
	}
}

// sharesVersions reports whether two lists have an element in common, with their spare capacity.
func sharesVersions(a, b []api.Version) bool {
	known := map[*api.Version]bool{}
	for i := range a[:cap(a)] {
		known[&a[:cap(a)][i]] = true
	}
	for i := range b[:cap(b)] {
		if known[&b[:cap(b)][i]] {
			return true
		}
	}
	return false
}

// TestCommits carries out several transactions, and undoes them again.
func TestCommits(t *testing.T) {
	m := testkit.New(4)
	changes := 0
	for range 500 {
		kinds := m.Kinds(2)
		states, times := [][]api.Version{nil}, []int{0}
		for tx := 1; tx <= 6; tx++ {
			l := states[tx-1]
			to := target(m, kinds, delta.Undo(l, tx)).Facts
			c := api.Commit{Tx: tx, Time: times[tx-1] + 1 + m.Below(3)}
			next := commit(t, l, to, c)
			changes += len(next) - len(l)
			states, times = append(states, next), append(times, c.Time)
		}
		last := states[6]
		for tx := 1; tx <= 6; tx++ {
			got := delta.Undo(last, tx)
			if !same(got, states[tx-1]) || testkit.SharesMemory(rowsOf(got), rowsOf(last)) || sharesVersions(got, last) {
				t.Fatal(tx, last, got, states[tx-1])
			}
			for at := range times[6] + 2 {
				if now := nonseq.Slice(last, at); at < times[tx] && !testkit.Identical(now, nonseq.Slice(states[tx-1], at)) {
					t.Fatal(tx, at, last, now)
				}
			}
		}
	}
	if changes < 3000 {
		t.Error("too few changes:", changes)
	}
}

// commit carries out what leads to a belief, and checks the history and the belief after that.
func commit(t *testing.T, l []api.Version, to []api.Fact, c api.Commit) []api.Version {
	t.Helper()
	all := slices.Clone(l)
	ids, facts := delta.Between(l, to)
	next, err := delta.Apply(l, ids, facts, c, len(l)+1, c.Tx%2)
	if err != api.OK || delta.Check(next) != api.OK || !reflect.DeepEqual(all, slices.Clone(l)) {
		t.Fatal(l, to, c, next, err)
	}
	if want := coalesce.Bag(to); !testkit.Identical(delta.Facts(next), want) || !testkit.Identical(nonseq.Slice(next, c.Time), want) {
		t.Fatal(l, to, next)
	}
	if closing, opening := delta.Between(next, delta.Facts(next)); len(closing)+len(opening) > 0 || delta.Size(next, to) != 0 {
		t.Fatal(next, closing, opening)
	}
	if delta.Size(l, to) != len(ids)+len(facts) {
		t.Fatal(l, to, ids, facts)
	}
	return next
}

// check decides about a history by its definition.
func check(l []api.Version) api.Errno {
	for i, v := range l {
		if v.ID < 1 || v.By < 1 || v.Schema < 0 || v.Until < 0 || !coalesce.Canonical([]api.Fact{{Valid: v.Valid}}) || !coalesce.Canonical([]api.Fact{{Valid: v.System}}) || v.Until != 0 && v.Until <= v.By || v.System.To == forever && v.Until != 0 {
			return api.ErrInvalid
		}
		if i == 0 {
			continue
		}
		w := l[i-1]
		if slices.Compare([]int{w.ID, w.System.From, w.Valid.From}, []int{v.ID, v.System.From, v.Valid.From}) >= 0 {
			return api.ErrOrder
		}
		if w.By > v.By || w.ID == v.ID && (w.Schema != v.Schema || !tuple.Equal(w.Row, v.Row) || w.By != v.By || w.Until != v.Until) {
			return api.ErrCorrupt
		}
	}
	for i, v := range l {
		for _, w := range l[:i] {
			if v.ID == w.ID && max(v.Valid.From, w.Valid.From) < min(v.Valid.To, w.Valid.To) && max(v.System.From, w.System.From) < min(v.System.To, w.System.To) {
				return api.ErrCorrupt
			}
		}
	}
	return api.OK
}

// history returns versions that are often in order, many of them with the same identity.
func history(m *testkit.Maker) []api.Version {
	var l []api.Version
	for range m.Below(9) {
		a, c := m.Below(7), m.Below(7)
		v := believed(open(1+m.Below(3), 1, a, a+1+m.Below(3)), c, c+1+m.Below(3))
		if v.By = v.ID; v.ID == 3 {
			v.Until = 5
		}
		if m.Chance(40) {
			v.Until, v.By, v.Row = m.Below(9)-1, m.Below(4), testkit.Row(m.Below(2))
		}
		if m.Chance(60) {
			v.Valid, v.System = m.AnyPeriod(), m.AnyPeriod()
		}
		l = append(l, v)
	}
	if !m.Chance(9) {
		slices.SortFunc(l, func(v, w api.Version) int {
			return slices.Compare([]int{v.ID, v.System.From, v.Valid.From}, []int{w.ID, w.System.From, w.Valid.From})
		})
	}
	return l
}

func TestCheckAgreesWithTheDefinition(t *testing.T) {
	m := testkit.New(5)
	seen, pieces := map[api.Errno]int{}, 0
	for range 60000 {
		l := history(m)
		got := delta.Check(l)
		if want := check(l); got != want {
			t.Fatal(l, got, want)
		}
		seen[got]++
		if got == api.OK && len(l) > 4 {
			pieces++
		}
	}
	if seen[api.OK] < 10000 || seen[api.ErrCorrupt] < 5000 || seen[api.ErrOrder] < 3000 || seen[api.ErrInvalid] < 3000 || pieces < 3000 {
		t.Error("too few cases:", seen, pieces)
	}
}

// TestAnyArguments calls all functions with arguments for which little or nothing is promised.
func TestAnyArguments(t *testing.T) {
	m := testkit.New(6)
	for range 20000 {
		var l []api.Version
		facts := m.AnyRelation(4).Facts
		for _, f := range m.AnyRelation(6).Facts {
			v := api.Version{ID: m.Below(3), Schema: m.AnyNumber(), Row: f.Row, Valid: f.Valid, System: m.AnyPeriod(), By: m.AnyNumber(), Until: m.AnyNumber()}
			if m.Chance(2) {
				v.System.To = forever
			}
			l = append(l, v)
		}
		all := slices.Clone(l)
		ids, opened := delta.Between(l, facts)
		c := api.Commit{Tx: m.AnyNumber(), Time: m.AnyNumber()}
		got, err := delta.Apply(l, ids, opened, c, m.AnyNumber(), m.AnyNumber())
		if err == api.OK && len(got) != len(l)+len(opened) || err != api.OK && len(got) > 0 {
			t.Fatal(l, ids, opened, got, err)
		}
		delta.Apply(l, []int{m.AnyNumber(), m.Below(3), m.AnyNumber()}[m.Below(3):], facts, c, m.AnyNumber(), m.AnyNumber())
		if got := delta.Facts(l); !testkit.Identical(got, nonseq.Slice(l, forever-1)) {
			t.Fatal(l, got)
		}
		if got := delta.Undo(l, m.AnyNumber()); len(got) > len(l) {
			t.Fatal(l, got)
		}
		if got := delta.Check(l); got != check(l) {
			t.Fatal(l, got)
		}
		if !same(l, all) {
			t.Fatal("changed", l, all)
		}
	}
}

// TestManyVersions takes minutes if time grows with the square of the number of versions.
func TestManyVersions(t *testing.T) {
	const n = 100000
	start := time.Now()
	var first, second []api.Fact
	for i := range n {
		first = append(first, fact(i*7%n, 0, 5))
		second = append(second, fact(i*7%n, 0, 5+i%2))
	}
	l := commit(t, nil, first, api.Commit{Tx: 1, Time: 5})
	next := commit(t, l, second, api.Commit{Tx: 2, Time: 6})
	if len(l) != n || len(next) != n+n/2 || delta.Size(l, second) != n {
		t.Error(len(l), len(next))
	}
	if !same(delta.Undo(next, 2), l) {
		t.Error("Undo")
	}
	if d := time.Since(start); d > 30*time.Second {
		t.Error("too slow:", d)
	}
}
