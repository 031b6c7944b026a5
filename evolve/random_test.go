package evolve_test

import (
	"slices"
	"testing"

	"bitemporal/api"
	"bitemporal/evolve"
	"bitemporal/schema"
)

func TestRandomChanges(t *testing.T) {
	next := random(1)
	counts := map[api.Errno]int{}
	applied := map[int]int{}
	for range 100000 {
		table := randomTable(next)
		c := randomChange(table, next)
		want := check(table, c)
		counts[want]++
		if got := evolve.Check(table, c); got != want {
			t.Fatal(table, c, got, want)
		}
		changed, err := evolve.Apply(table, c)
		if err != want {
			t.Fatal(table, c, err, want)
		}
		if err != api.OK {
			if !schema.Same(changed, api.Table{}) || evolve.Index(table, c, next(len(table.Columns))) != -1 {
				t.Fatal(table, c, changed)
			}
			continue
		}
		applied[c.Kind]++
		if !schema.Same(changed, apply(table, c)) || schema.Check(changed) != api.OK {
			t.Fatal(table, c, changed)
		}
		checkColumns(t, table, c, changed)
	}
	for _, err := range []api.Errno{api.OK, api.ErrKind, api.ErrInvalid, api.ErrColumns, api.ErrSyntax, api.ErrExists, api.ErrNull, api.ErrNotFound, api.ErrSchema} {
		if counts[err] < 100 {
			t.Error("only", counts[err], "changes with the error", err)
		}
	}
	for kind := api.ChangeAdd; kind <= api.ChangeText; kind++ {
		if applied[kind] < 1000 {
			t.Error("only", applied[kind], "changes of the kind", kind)
		}
	}
}

// checkColumns compares the columns of a table, and their indices, with those after a change.
func checkColumns(t *testing.T, table api.Table, c api.Change, changed api.Table) {
	l, occurred := kept(table, c), map[int]bool{}
	for i, column := range table.Columns {
		k := evolve.Index(table, c, i)
		if k != slices.Index(l, i) {
			t.Fatal(table, c, i, k)
		}
		if k < 0 {
			continue
		}
		if occurred[k] || changed.Columns[k] != column && column.Name != c.Name || changed.Columns[k].Nullable != column.Nullable {
			t.Fatal(table, c, i, k)
		}
		occurred[k] = true
	}
}

// TestComposition runs random changes at once, one by one, and in two parts.
func TestComposition(t *testing.T) {
	next := random(2)
	long, failed := 0, 0
	for range 20000 {
		table := randomTable(next)
		var l []api.Change
		want, stop, wantErr := table, 0, api.OK
		for range next(10) {
			c := randomChange(want, next)
			for range 3 {
				if check(want, c) != api.OK {
					c = randomChange(want, next)
				}
			}
			l = append(l, c)
			if wantErr = check(want, c); wantErr != api.OK {
				break
			}
			want = apply(want, c)
			stop++
		}
		if wantErr != api.OK {
			want, failed = api.Table{}, failed+1
		} else if stop > 4 {
			long++
		}
		got, n, err := evolve.Run(table, l)
		if n != stop || err != wantErr || !schema.Same(got, want) {
			t.Fatal(table, l, got, n, err)
		}
		k := next(len(l) + 1)
		middle, n, err := evolve.Run(table, l[:k])
		if k > stop {
			if n != stop || err != wantErr {
				t.Fatal(table, l[:k], n, err)
			}
			continue
		}
		got, m, err2 := evolve.Run(middle, l[k:])
		if n != k || err != api.OK || m != stop-k || err2 != wantErr || !schema.Same(got, want) {
			t.Fatal(table, l, k, got, n, err, m, err2)
		}
	}
	if long < 500 || failed < 500 {
		t.Error("only", long, "long sequences and", failed, "that failed")
	}
}

// overwrite changes everything in the memory of a definition.
func overwrite(t api.Table) {
	for i := range t.Columns {
		t.Columns[i] = api.Column{Name: "other", Kind: 77}
	}
	for i := range t.Key {
		t.Key[i] = 77
	}
	for i := range t.Foreigns {
		for k := range t.Foreigns[i].Columns {
			t.Foreigns[i].Columns[k] = 77
		}
		t.Foreigns[i] = api.Foreign{Table: "other"}
	}
	for i := range t.Checks {
		for k := range t.Checks[i].Args {
			t.Checks[i].Args[k] = api.Expr{Op: 77}
		}
		t.Checks[i] = api.Expr{Op: 77}
	}
}

func TestMemory(t *testing.T) {
	for _, l := range [][]api.Change{nil, {add("h", api.KindInt, true, api.Value{})}, {drop("a")}, {rename("a", "h")}, {text("a")}} {
		table := sample()
		first, _, _ := evolve.Run(table, l)
		second, _, _ := evolve.Run(table, l)
		third, _, _ := evolve.Run(sample(), l)
		overwrite(first)
		if !schema.Same(table, sample()) || !schema.Same(second, third) {
			t.Error(l, "a result shares memory")
		}
		overwrite(table)
		if !schema.Same(second, third) {
			t.Error(l, "a result shares memory with its argument")
		}
	}
}

func TestArgumentsStay(t *testing.T) {
	table := sample()
	table.Columns = append(table.Columns, api.Column{Name: "spare"})[:7]
	table.Key = append(table.Key, 55, 55, 55, 55)[:1]
	table.Foreigns = append(table.Foreigns, api.Foreign{Table: "spare"})[:1]
	table.Foreigns[0].Columns = append(table.Foreigns[0].Columns, 55, 55)[:2]
	table.Checks = append(table.Checks, api.Expr{Op: 55})[:1]
	changes := []api.Change{add("h", api.KindInt, true, api.Value{}), drop("a"), rename("b", "z"), text("c")}
	for _, c := range changes {
		evolve.Check(table, c)
		evolve.Apply(table, c)
		evolve.Index(table, c, 3)
	}
	l := slices.Clone(changes)
	evolve.Run(table, l)
	if !schema.Same(table, sample()) || !slices.Equal(l, changes) {
		t.Error("an argument was changed")
	}
	if table.Columns[:8][7].Name != "spare" || !slices.Equal(table.Key[:5], []int{3, 55, 55, 55, 55}) || table.Foreigns[:2][1].Table != "spare" || !slices.Equal(table.Foreigns[0].Columns[:4], []int{4, 3, 55, 55}) || table.Checks[:2][1].Op != 55 {
		t.Error("spare capacity was changed")
	}
}
