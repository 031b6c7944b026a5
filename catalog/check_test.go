package catalog_test

import (
	"math"
	"strconv"
	"testing"

	"bitemporal/api"
	"bitemporal/catalog"
)

// tables returns entries that create n tables, t0 and others, at the time 5.
func tables(n int) []api.Entry {
	var c []api.Entry
	for i := range n {
		c = append(c, creation(5, small("t"+strconv.Itoa(i))))
	}
	return c
}

// renamed returns the entries of a table t that is created at the time 5 and changed n times.
func renamed(n int) []api.Entry {
	c := []api.Entry{creation(5, small("t"))}
	for i := range n {
		c = append(c, change(5+i, "t", rename([]string{"b", "x"}[i%2], []string{"x", "b"}[i%2])))
	}
	return c
}

// after returns the entries of a catalog, followed by others.
func after(c []api.Entry, l ...api.Entry) []api.Entry { return append(c[:len(c):len(c)], l...) }

func checkAll(t *testing.T, cases []struct {
	c    []api.Entry
	want api.Errno
}) {
	t.Helper()
	for i, c := range cases {
		if got := check(c.c); got != c.want {
			t.Error("the model", i, got)
		}
		if got := catalog.Check(c.c); got != c.want {
			t.Error(i, c.c, got)
		}
	}
}

func TestCheckTimes(t *testing.T) {
	at := func(l ...int) []api.Entry {
		c := tables(len(l))
		for i := range c {
			c[i].Time = l[i]
		}
		return c
	}
	broken := api.Entry{Time: -1, Table: "x", Create: table("T")}
	late := broken
	late.Time = 4
	checkAll(t, []struct {
		c    []api.Entry
		want api.Errno
	}{
		{nil, api.OK}, {[]api.Entry{}, api.OK}, {at(0), api.OK}, {at(api.Forever - 1), api.OK}, {at(0, 0, 0), api.OK}, {at(0, 5, 5, 6, api.Forever-1, api.Forever-1), api.OK},
		{at(-1), api.ErrRange}, {at(math.MinInt), api.ErrRange}, {at(api.Forever), api.ErrRange}, {at(math.MaxInt), api.ErrRange},
		{at(5, -1), api.ErrRange}, {at(5, 4), api.ErrOrder}, {at(5, 5, 0), api.ErrOrder}, {at(5, 6, 5), api.ErrOrder}, {at(5, api.Forever), api.ErrRange},
		{at(5, 4, -1), api.ErrOrder}, {at(5, -1, 4), api.ErrRange},
		{after(tables(2), broken), api.ErrRange}, {after(tables(2), late), api.ErrOrder},
		{after(tables(2), change(4, "none", api.Change{Kind: 9})), api.ErrOrder}, {after(tables(2), change(-1, "none", api.Change{Kind: 9})), api.ErrRange},
		{after(tables(2), change(5, "t0", drop("b"))), api.OK}, {after(tables(2), change(4, "t0", drop("b"))), api.ErrOrder},
	})
}

func TestCheckCreations(t *testing.T) {
	other := func(at int, name string, t api.Table) api.Entry { return api.Entry{Time: at, Table: name, Create: t} }
	nullable := small("t")
	nullable.Columns[0].Nullable = true
	many := small("t")
	for range 5 {
		many.Foreigns = append(many.Foreigns, foreign("t", 0))
	}
	wrong := small("t0")
	wrong.Columns[0].Kind = 0
	checkAll(t, []struct {
		c    []api.Entry
		want api.Errno
	}{
		{[]api.Entry{{}}, api.ErrSyntax}, {[]api.Entry{{Table: "t"}}, api.ErrInvalid}, {[]api.Entry{other(5, "u", small("t"))}, api.ErrInvalid},
		{[]api.Entry{other(5, "", small("t"))}, api.ErrInvalid}, {[]api.Entry{other(5, "u", api.Table{})}, api.ErrInvalid}, {[]api.Entry{other(5, "u", small("T"))}, api.ErrInvalid},
		{[]api.Entry{creation(5, small("T"))}, api.ErrSyntax}, {[]api.Entry{creation(5, api.Table{Name: "t"})}, api.ErrColumns}, {[]api.Entry{creation(5, nullable)}, api.ErrNull},
		{[]api.Entry{creation(5, many)}, api.ErrTooLong}, {[]api.Entry{creation(5, table("t"))}, api.OK},
		{tables(16), api.OK}, {tables(17), api.ErrTooLong}, {after(tables(16), creation(5, small("t0"))), api.ErrTooLong}, {after(tables(15), creation(5, small("t0"))), api.ErrExists},
		{after(tables(16), other(5, "t0", small("t1"))), api.ErrInvalid}, {after(tables(16), creation(5, wrong)), api.ErrKind}, {after(tables(16), change(5, "t15", drop("b"))), api.OK},
		{after(tables(16), creation(5, small("x", foreign("none", 0)))), api.ErrTooLong},
		{after(tables(2), creation(6, small("t1"))), api.ErrExists}, {after(tables(2), creation(6, wrong)), api.ErrKind}, {after(tables(2), creation(6, small("t1", foreign("none", 0)))), api.ErrExists},
		{after(tables(2), change(5, "t1", drop("b")), creation(6, small("t1"))), api.ErrExists},
		{after(tables(14), change(5, "t1", drop("b")), creation(6, small("x")), creation(6, small("y"))), api.OK},
	})
}

func TestCheckForeigns(t *testing.T) {
	// The table pair has the key (integer, text), one has the key (integer).
	two := []api.Entry{creation(5, table("pair")), creation(5, small("one"))}
	with := func(l ...api.Foreign) []api.Entry { return after(two, creation(5, table("t", l...))) }
	checkAll(t, []struct {
		c    []api.Entry
		want api.Errno
	}{
		{with(foreign("pair", 0, 1)), api.OK}, {with(foreign("pair", 2, 1)), api.OK}, {with(foreign("one", 0)), api.OK}, {with(foreign("one", 2)), api.OK},
		{with(foreign("t", 2, 1)), api.OK}, {with(foreign("t", 0, 1)), api.OK}, {with(foreign("pair", 2, 1), foreign("one", 2), foreign("t", 2, 1), foreign("pair", 2, 1)), api.OK},
		{with(foreign("none", 0)), api.ErrNotFound}, {with(foreign("none", 3, 2, 1)), api.ErrNotFound},
		{with(foreign("pair", 0)), api.ErrColumns}, {with(foreign("pair", 0, 1, 2)), api.ErrColumns}, {with(foreign("one", 0, 1)), api.ErrColumns}, {with(foreign("t", 0)), api.ErrColumns}, {with(foreign("t", 3, 1, 2)), api.ErrColumns},
		{with(foreign("pair", 1)), api.ErrColumns}, {with(foreign("one", 3, 1)), api.ErrColumns},
		{with(foreign("pair", 1, 0)), api.ErrKind}, {with(foreign("pair", 3, 1)), api.ErrKind}, {with(foreign("pair", 2, 3)), api.ErrKind}, {with(foreign("pair", 0, 2)), api.ErrKind}, {with(foreign("one", 1)), api.ErrKind}, {with(foreign("one", 3)), api.ErrKind},
		{with(foreign("t", 1, 0)), api.ErrKind}, {with(foreign("t", 2, 3)), api.ErrKind},
		{with(foreign("one", 0), foreign("one", 1), foreign("none", 0)), api.ErrKind}, {with(foreign("one", 0), foreign("none", 0), foreign("one", 1)), api.ErrNotFound},
		{with(foreign("pair", 0), foreign("none", 0)), api.ErrColumns}, {with(foreign("t", 2, 3), foreign("pair", 0)), api.ErrKind},
		{with(foreign("one", 0), foreign("One", 0)), api.ErrSyntax}, {with(foreign("none", 0), foreign("one", 9)), api.ErrSchema},
		{after(two[:1], creation(5, small("x", foreign("one", 1))), two[1]), api.ErrNotFound},
		{[]api.Entry{creation(5, small("x", foreign("x", 1)))}, api.OK}, {[]api.Entry{creation(5, small("x", foreign("y", 1))), creation(5, small("y"))}, api.ErrNotFound},
	})
}

// TestCheckChangedKeys references a table whose key has been moved by a change.
func TestCheckChangedKeys(t *testing.T) {
	u := small("u")
	u.Columns = append([]api.Column{{Name: "z", Kind: api.KindText}}, u.Columns...)
	u.Key = []int{1}
	c := []api.Entry{creation(5, u), change(6, "u", drop("z")), change(7, "u", text("b"))}
	checkAll(t, []struct {
		c    []api.Entry
		want api.Errno
	}{
		{after(c, creation(8, small("x", foreign("u", 1)))), api.OK},
		{after(c, creation(8, table("x", foreign("u", 1)))), api.ErrKind},
		{after(c[:1], creation(8, small("x", foreign("u", 1)))), api.OK},
		{after(c, creation(8, small("x", foreign("u", 1))), change(8, "u", rename("a", "k")), change(9, "x", rename("b", "k"))), api.OK},
		{after(c, creation(8, small("x", foreign("u", 1))), change(8, "x", drop("b"))), api.ErrSchema},
		{after(c, creation(8, small("x", foreign("u", 1))), change(8, "u", text("a"))), api.ErrSchema},
	})
}

func TestCheckChanges(t *testing.T) {
	both := api.Entry{Time: 9, Table: "t1", Create: small("t1"), Change: drop("b")}
	named := api.Entry{Time: 9, Table: "none", Create: api.Table{Name: "t1"}, Change: api.Change{Kind: 9}}
	partly := []api.Entry{both, named}
	for _, t := range []api.Table{{Columns: []api.Column{{}}}, {Key: []int{0}}, {Foreigns: []api.Foreign{{}}}, {Checks: []api.Expr{{}}}} {
		partly = append(partly, api.Entry{Time: 9, Table: "t1", Create: t, Change: drop("b")})
	}
	for i, e := range partly {
		if got := catalog.Check(after(tables(3), e)); got != api.ErrInvalid {
			t.Error(i, got)
		}
	}
	empty := api.Entry{Time: 9, Table: "t1", Create: api.Table{Columns: []api.Column{}, Key: []int{}, Foreigns: []api.Foreign{}, Checks: []api.Expr{}}, Change: drop("b")}
	checkAll(t, []struct {
		c    []api.Entry
		want api.Errno
	}{
		{after(tables(3), empty), api.OK}, {after(tables(3), change(9, "t1", drop("b"))), api.OK}, {after(tables(3), change(9, "t3", drop("b"))), api.ErrNotFound},
		{[]api.Entry{change(9, "t", drop("b"))}, api.ErrNotFound}, {[]api.Entry{change(9, "t", drop("b")), creation(9, small("t"))}, api.ErrNotFound}, {[]api.Entry{change(9, "", api.Change{Kind: 9})}, api.ErrNotFound},
		{after(tables(3), change(9, "t1", api.Change{Kind: 9})), api.ErrKind}, {after(tables(3), change(9, "t1", api.Change{Name: "b"})), api.ErrKind}, {after(tables(3), change(9, "t1", api.Change{Default: number(1)})), api.ErrKind},
		{after(tables(3), change(9, "t1", drop("c"))), api.ErrNotFound}, {after(tables(3), change(9, "t1", drop("a"))), api.ErrSchema}, {after(tables(3), change(9, "t1", rename("a", "b"))), api.ErrExists},
		{after(tables(3), change(9, "t1", drop("b")), change(9, "t1", drop("b"))), api.ErrNotFound}, {after(tables(3), change(9, "t1", drop("b")), change(9, "t2", drop("b"))), api.OK},
		{after(tables(3), change(9, "t1", text("b")), change(9, "t1", text("b"))), api.ErrKind}, {after(tables(3), change(9, "t1", text("b")), change(10, "t2", text("b"))), api.OK},
		{after(tables(3), change(9, "t1", rename("b", "x")), change(9, "t1", add("b")), change(9, "t1", drop("x"))), api.OK},
		{renamed(64), api.OK}, {renamed(65), api.ErrTooLong}, {after(renamed(64), change(99, "t", api.Change{Kind: 9})), api.ErrTooLong}, {after(renamed(63), change(99, "t", api.Change{Kind: 9})), api.ErrKind},
		{after(renamed(64), change(99, "u", rename("b", "x"))), api.ErrNotFound}, {after(renamed(64), creation(99, small("u")), change(99, "u", drop("b"))), api.OK},
		{after(renamed(64), creation(99, small("t"))), api.ErrExists},
		{after(renamed(64), api.Entry{Time: 99, Table: "t", Create: small("t"), Change: drop("b")}), api.ErrInvalid},
	})
}

func TestRandomCatalogs(t *testing.T) {
	next := random(1)
	counts := map[api.Errno]int{}
	for range 4000 {
		c := randomCatalog(nil, next(40), next)
		if next(10) == 0 {
			c = randomCatalog([][]api.Entry{tables(14 + next(3)), renamed(62 + next(3))}[next(2)], next(5), next)
		}
		for range 4 {
			l := after(c, randomEntry(c, next))
			if next(4) == 0 {
				l = append(l, randomEntry(l, next))
			}
			want := check(l)
			counts[want]++
			if got := catalog.Check(l); got != want {
				t.Fatal(l, got, want)
			}
		}
		if k := next(len(c) + 1); catalog.Check(c[:k]) != api.OK {
			t.Fatal("a beginning of a valid catalog", c[:k])
		}
	}
	for _, err := range []api.Errno{api.OK, api.ErrRange, api.ErrOrder, api.ErrInvalid, api.ErrTooLong, api.ErrExists, api.ErrNotFound, api.ErrColumns, api.ErrKind, api.ErrSchema} {
		if counts[err] < 20 {
			t.Error("only", counts[err], "catalogs with the error", err)
		}
	}
}
