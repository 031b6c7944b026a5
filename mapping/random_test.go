package mapping_test

import (
	"slices"
	"testing"

	"bitemporal/api"
	"bitemporal/evolve"
	"bitemporal/mapping"
	"bitemporal/schema"
)

func TestRandomConversions(t *testing.T) {
	next := random(1)
	counts := map[string]int{}
	for range 30000 {
		table := randomTable(next)
		l := randomChanges(table, next)
		n := len(l)
		if next(30) == 0 {
			l = append(l, drop("none"))
		}
		from, to := next(n+1), next(n+1)
		if next(30) == 0 {
			to = []int{-1, len(l) + 1}[next(2)]
		}
		r := randomRow(version(table, l, from), next)
		want := convert(table, l, from, to, r)
		got := mapping.Convert(table, l, from, to, r)
		if !slices.Equal(got, want) {
			t.Fatal(table, l, from, to, r, got, want)
		}
		switch {
		case len(want) == 0:
			counts["rejected"]++
			continue
		case from < to:
			counts["forward"]++
		case to < from:
			counts["backward"]++
		}
		if !fits(version(table, l, to), got) {
			t.Fatal(table, l, from, to, r, got)
		}
		middle := min(from, to) + next(max(from, to)-min(from, to)+1)
		halfway := mapping.Convert(table, l, from, middle, r)
		if got := mapping.Convert(table, l, middle, to, halfway); !slices.Equal(got, want) {
			t.Fatal(table, l, from, middle, to, r, got, want)
		}
	}
	for _, k := range []string{"rejected", "forward", "backward"} {
		if counts[k] < 2000 {
			t.Error("only", counts[k], k)
		}
	}
}

// TestRandomSteps converts over one change, which often cannot be applied.
func TestRandomSteps(t *testing.T) {
	next := random(2)
	applied := map[int]int{}
	rejected := 0
	for range 60000 {
		table := randomTable(next)
		c := randomChange(table, next)
		if next(20) == 0 {
			c.Kind = next(6)
		}
		changed, err := evolve.Apply(table, c)
		if err != api.OK {
			changed = table
			rejected++
		}
		before, after := randomRow(table, next), randomRow(changed, next)
		if got, want := mapping.Forward(table, c, before), convert(table, []api.Change{c}, 0, 1, before); !slices.Equal(got, want) {
			t.Fatal("forward", table, c, before, got, want)
		}
		if got, want := mapping.Backward(table, c, after), convert(table, []api.Change{c}, 1, 0, after); !slices.Equal(got, want) {
			t.Fatal("backward", table, c, after, got, want)
		}
		if err == api.OK {
			applied[c.Kind]++
		}
	}
	for kind := api.ChangeAdd; kind <= api.ChangeText; kind++ {
		if applied[kind] < 1000 {
			t.Error("only", applied[kind], "changes of the kind", kind)
		}
	}
	if rejected < 1000 {
		t.Error("only", rejected, "changes that cannot be applied")
	}
}

// TestRoundTrip converts rows over lossless changes and back.
func TestRoundTrip(t *testing.T) {
	next := random(3)
	long := 0
	for range 20000 {
		table := randomTable(next)
		l := randomChanges(table, next)
		from := next(len(l) + 1)
		to := from
		for to < len(l) && evolve.Lossless(l[to]) {
			to++
		}
		r := randomRow(version(table, l, from), next)
		if !fits(version(table, l, from), r) {
			continue
		}
		forth := mapping.Convert(table, l, from, to, r)
		if got := mapping.Convert(table, l, to, from, forth); !slices.Equal(got, r) {
			t.Fatal(table, l, from, to, r, forth, got)
		}
		if to-from > 2 {
			long++
		}
	}
	if long < 1000 {
		t.Error("only", long, "ways over several changes")
	}
}

func TestRandomColumns(t *testing.T) {
	next := random(4)
	kept, lost := 0, 0
	for range 10000 {
		table := randomTable(next)
		l := randomChanges(table, next)
		from, to := next(len(l)+1), next(len(l)+1)
		r := randomRow(version(table, l, from), next)
		converted := mapping.Convert(table, l, from, to, r)
		texts := slices.ContainsFunc(l[min(from, to):max(from, to)], func(c api.Change) bool { return c.Kind == api.ChangeText })
		for i := -1; i <= len(r)+1; i++ {
			got := mapping.Column(table, l, from, to, i)
			if want := indexOf(table, l, from, to, i); got != want {
				t.Fatal(table, l, from, to, i, got, want)
			}
			if got < 0 {
				lost++
				continue
			}
			if len(converted) > 0 && !texts && converted[got] != r[i] {
				t.Fatal(table, l, from, to, i, got, r, converted)
			}
			kept++
		}
	}
	if kept < 10000 || lost < 10000 {
		t.Error("only", kept, "kept and", lost, "lost columns")
	}
}

func TestRandomTables(t *testing.T) {
	next := random(5)
	for range 5000 {
		table := randomTable(next)
		l := randomChanges(table, next)
		got := mapping.Tables(table, l)
		if len(got) != len(l)+1 {
			t.Fatal(table, l, got)
		}
		for i := range got {
			if !schema.Same(got[i], version(table, l, i)) {
				t.Fatal(table, l, i, got[i])
			}
		}
	}
}

// overwrite changes everything in the memory of a definition.
func overwrite(t api.Table) {
	for i := range t.Columns {
		t.Columns[i] = api.Column{Name: "other", Kind: 77}
	}
	for i := range t.Key {
		t.Key[i] = 77
	}
	for i := range t.Foreigns {
		for k := range t.Foreigns[i].Columns {
			t.Foreigns[i].Columns[k] = 77
		}
		t.Foreigns[i] = api.Foreign{Table: "other"}
	}
	for i := range t.Checks {
		for k := range t.Checks[i].Args {
			t.Checks[i].Args[k] = api.Expr{Op: 77}
		}
		t.Checks[i] = api.Expr{Op: 77}
	}
}

// TestMemoryOfTables overwrites each version in turn, which must leave the others and the argument as they are.
func TestMemoryOfTables(t *testing.T) {
	l := []api.Change{rename("a", "z"), text("z"), add("f", api.KindInt, false, number(1)), drop("z")}
	want := mapping.Tables(sample(), l)
	for i := range want {
		table := sample()
		got := mapping.Tables(table, l)
		overwrite(got[i])
		for k := range got {
			if k != i && !schema.Same(got[k], want[k]) {
				t.Error("the versions", i, "and", k, "share memory")
			}
		}
		if !schema.Same(table, sample()) {
			t.Error("the version", i, "shares memory with the argument")
		}
	}
}

func TestMemoryOfRows(t *testing.T) {
	for from := range 7 {
		for to := range 7 {
			r := filled(version(sample(), history(), from))
			r = r[:len(r):len(r)]
			want := slices.Clone(r)
			got := mapping.Convert(sample(), history(), from, to, r)
			if len(got) == 0 {
				t.Fatal(from, to, r)
			}
			for i := range got {
				got[i] = word("other")
			}
			if !slices.Equal(r, want) {
				t.Error(from, to, "the result shares memory with the argument")
			}
		}
	}
}

// TestArgumentsStay converts rows with spare capacity, which must stay as it is.
func TestArgumentsStay(t *testing.T) {
	spare := word("spare")
	for from := range 7 {
		for to := range 7 {
			r := filled(version(sample(), history(), from))
			n := len(r)
			r = append(r, spare, spare, spare)
			want := slices.Clone(r)
			table, l := sample(), history()
			if len(mapping.Convert(table, l, from, to, r[:n])) == 0 {
				t.Fatal(from, to, r[:n])
			}
			mapping.Column(table, l, from, to, 0)
			mapping.Tables(table, l)
			if !slices.Equal(r, want) || !schema.Same(table, sample()) || !slices.Equal(l, history()) {
				t.Error(from, to, "an argument was changed")
			}
		}
	}
	for _, c := range append(history()[:2], rename("a", "z"), add("f", api.KindInt, true, api.Value{})) {
		l := []api.Change{c}
		before, after := filled(sample()), filled(version(sample(), l, 1))
		n, m := len(before), len(after)
		before, after = append(before, spare, spare), append(after, spare, spare)
		x, y := slices.Clone(before), slices.Clone(after)
		if len(mapping.Forward(sample(), c, before[:n])) == 0 || len(mapping.Backward(sample(), c, after[:m])) == 0 {
			t.Fatal(c, before, after)
		}
		if !slices.Equal(before, x) || !slices.Equal(after, y) {
			t.Error(c, "an argument was changed")
		}
	}
}
