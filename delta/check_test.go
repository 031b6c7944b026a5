package delta_test

import (
	"math"
	"testing"
	"time"

	"bitemporal/api"
	"bitemporal/delta"
	"bitemporal/testkit"
)

// changed returns a version after a change.
func changed(v api.Version, change func(v *api.Version)) api.Version {
	change(&v)
	return v
}

func TestCheckVersions(t *testing.T) {
	for i, c := range []struct {
		want   api.Errno
		change func(v *api.Version)
	}{
		{api.OK, func(v *api.Version) {}},
		{api.OK, func(v *api.Version) { v.ID = 1 }}, {api.ErrInvalid, func(v *api.Version) { v.ID = 0 }}, {api.ErrInvalid, func(v *api.Version) { v.ID = math.MinInt }},
		{api.OK, func(v *api.Version) { v.ID = math.MaxInt }},
		{api.OK, func(v *api.Version) { v.By = 1 }}, {api.ErrInvalid, func(v *api.Version) { v.By = 0 }}, {api.ErrInvalid, func(v *api.Version) { v.By = -1 }},
		{api.OK, func(v *api.Version) { v.Schema = 0 }}, {api.ErrInvalid, func(v *api.Version) { v.Schema = -1 }}, {api.OK, func(v *api.Version) { v.Schema = math.MaxInt }},
		{api.OK, func(v *api.Version) { v.Until = 0 }}, {api.ErrInvalid, func(v *api.Version) { v.Until = -1 }}, {api.ErrInvalid, func(v *api.Version) { v.Until = math.MinInt }},
		{api.ErrInvalid, func(v *api.Version) { v.Until = 3 }}, {api.ErrInvalid, func(v *api.Version) { v.Until = 2 }},
		{api.OK, func(v *api.Version) { v.Until = 4 }}, {api.OK, func(v *api.Version) { v.Until = math.MaxInt }},
		{api.ErrInvalid, func(v *api.Version) { v.By = 4 }}, {api.ErrInvalid, func(v *api.Version) { v.By = 5 }}, {api.ErrInvalid, func(v *api.Version) { v.By = math.MaxInt }},
		{api.ErrInvalid, func(v *api.Version) { v.Valid.From = 8 }}, {api.ErrInvalid, func(v *api.Version) { v.Valid.From = -1 }}, {api.ErrInvalid, func(v *api.Version) { v.Valid.To = forever + 1 }},
		{api.OK, func(v *api.Version) { v.Valid = api.Period{From: 0, To: forever} }}, {api.ErrInvalid, func(v *api.Version) { v.Valid = api.Period{} }},
		{api.ErrInvalid, func(v *api.Version) { v.System.From = 20 }}, {api.ErrInvalid, func(v *api.Version) { v.System.From = -1 }},
		{api.ErrInvalid, func(v *api.Version) { v.System.To = forever }}, {api.OK, func(v *api.Version) { v.System.To = forever - 1 }},
		{api.ErrInvalid, func(v *api.Version) { v.System.To, v.Until = forever+1, 0 }}, {api.OK, func(v *api.Version) { v.System.To, v.Until = forever, 0 }},
		{api.OK, func(v *api.Version) { v.Row = nil }}, {api.OK, func(v *api.Version) { v.Row = []api.Value{{Kind: 9, Int: -1}} }},
	} {
		v := closed(5, 1, 3, 8)
		v.By, v.Until, v.Schema = 3, 4, 2
		c.change(&v)
		if err := delta.Check([]api.Version{v}); err != c.want {
			t.Error("case", i, v, err)
		}
		// The error of a version comes before those of its place, and after those of the versions before it.
		last := changed(open(math.MaxInt, 1, 0, 8), func(w *api.Version) { w.By = math.MaxInt })
		if err := delta.Check([]api.Version{last, v}); c.want != api.OK && err != api.ErrInvalid || c.want == api.OK && err == api.OK {
			t.Error("case", i, v, err)
		}
		if err := delta.Check([]api.Version{last, open(1, 1, 0, 1), v}); err != api.ErrOrder {
			t.Error("case", i, v, err)
		}
	}
	if delta.Check(nil) != api.OK || delta.Check([]api.Version{}) != api.OK {
		t.Error("no versions")
	}
}

func TestCheckSuccession(t *testing.T) {
	first := closed(5, 1, 3, 8)
	first.By, first.Until, first.Schema = 3, 7, 2
	for i, c := range []struct {
		want   api.Errno
		change func(v *api.Version)
	}{
		{api.ErrOrder, func(v *api.Version) {}},
		{api.OK, func(v *api.Version) { v.ID = 6 }}, {api.ErrOrder, func(v *api.Version) { v.ID = 4 }},
		{api.OK, func(v *api.Version) { v.ID, v.System.From, v.Valid.From = 6, 9, 2 }},
		{api.ErrOrder, func(v *api.Version) { v.ID, v.System.From, v.Valid.From, v.By = 4, 21, 4, 4; v.System.To = 30 }},
		{api.OK, func(v *api.Version) { v.System = api.Period{From: 20, To: 30} }},
		{api.OK, func(v *api.Version) { v.System = api.Period{From: 20, To: 30}; v.Valid.From = 2 }},
		{api.ErrOrder, func(v *api.Version) { v.System = api.Period{From: 9, To: 10} }},
		{api.ErrOrder, func(v *api.Version) { v.System, v.Valid = api.Period{From: 9, To: 10}, api.Period{From: 8, To: 9} }},
		{api.OK, func(v *api.Version) { v.Valid = api.Period{From: 8, To: 9} }},
		{api.ErrOrder, func(v *api.Version) { v.Valid = api.Period{From: 2, To: 3} }},
		{api.ErrOrder, func(v *api.Version) { v.Valid.To, v.System.To = 9, 21 }},
		{api.ErrCorrupt, func(v *api.Version) { v.ID, v.By = 6, 2 }}, {api.OK, func(v *api.Version) { v.ID, v.By = 6, 4 }},
		{api.ErrOrder, func(v *api.Version) { v.ID, v.By = 4, 2 }}, {api.ErrOrder, func(v *api.Version) { v.By = 2 }},
		{api.OK, func(v *api.Version) { v.ID, v.Schema, v.Until, v.Row = 6, 0, 9, nil }},
		{api.ErrCorrupt, func(v *api.Version) { v.Valid = api.Period{From: 8, To: 9}; v.Schema = 3 }},
		{api.ErrCorrupt, func(v *api.Version) { v.Valid = api.Period{From: 8, To: 9}; v.Schema = 1 }},
		{api.ErrCorrupt, func(v *api.Version) { v.Valid = api.Period{From: 8, To: 9}; v.Row = testkit.Row(2) }},
		{api.ErrCorrupt, func(v *api.Version) { v.Valid = api.Period{From: 8, To: 9}; v.Row = testkit.Row(1, nil) }},
		{api.ErrCorrupt, func(v *api.Version) { v.Valid = api.Period{From: 8, To: 9}; v.Row = testkit.Row("1") }},
		{api.ErrCorrupt, func(v *api.Version) { v.Valid = api.Period{From: 8, To: 9}; v.By = 4 }},
		{api.ErrCorrupt, func(v *api.Version) { v.Valid = api.Period{From: 8, To: 9}; v.By = 2 }},
		{api.ErrCorrupt, func(v *api.Version) { v.Valid = api.Period{From: 8, To: 9}; v.Until = 8 }},
		{api.ErrCorrupt, func(v *api.Version) { v.Valid = api.Period{From: 8, To: 9}; v.Until = 0 }},
		{api.ErrCorrupt, func(v *api.Version) { v.Valid.From = 4 }}, {api.ErrCorrupt, func(v *api.Version) { v.System.From = 19 }},
	} {
		second := first
		c.change(&second)
		if err := delta.Check([]api.Version{first, second}); err != c.want {
			t.Error("case", i, second, err)
		}
	}
}

// pieces returns versions with the same identity and these rectangles.
func pieces(id int, l ...api.Rect) []api.Version {
	var versions []api.Version
	for _, r := range l {
		v := open(id, 1, r.Valid.From, r.Valid.To)
		versions = append(versions, believed(v, r.System.From, r.System.To))
	}
	return versions
}

// rect returns the rectangle of the valid time [a, b) and the system time [c, d).
func rect(a, b, c, d int) api.Rect {
	return api.Rect{Valid: api.Period{From: a, To: b}, System: api.Period{From: c, To: d}}
}

func TestCheckPieces(t *testing.T) {
	for i, c := range []struct {
		want api.Errno
		l    []api.Version
	}{
		{api.OK, pieces(1, rect(0, 4, 0, 5), rect(4, 8, 0, 5), rect(0, 8, 5, 9))},
		{api.OK, pieces(1, rect(0, 4, 0, 5), rect(6, 8, 1, 7), rect(4, 5, 2, 9), rect(0, 4, 5, 9), rect(5, 6, 6, forever))},
		{api.ErrCorrupt, pieces(1, rect(0, 4, 0, 5), rect(3, 8, 0, 5))},
		{api.ErrCorrupt, pieces(1, rect(0, 4, 0, 5), rect(3, 8, 4, 5))},
		{api.OK, pieces(1, rect(0, 4, 0, 5), rect(3, 8, 5, 6))},
		{api.ErrCorrupt, pieces(1, rect(0, 4, 0, 5), rect(6, 8, 0, 2), rect(5, 6, 1, 9), rect(7, 9, 3, 5), rect(2, 3, 4, 6))},
		{api.OK, pieces(1, rect(0, 4, 0, 5), rect(6, 8, 0, 2), rect(5, 6, 1, 9), rect(7, 9, 3, 5), rect(2, 3, 5, 6))},
		{api.ErrCorrupt, pieces(1, rect(0, forever, 0, forever), rect(forever-1, forever, forever-1, forever))},
		{api.ErrCorrupt, pieces(1, rect(4, 5, 0, 100), rect(0, 9, 99, 100))},
		{api.OK, pieces(1, rect(4, 5, 0, 99), rect(0, 9, 99, 100))},
		{api.OK, append(pieces(1, rect(0, 4, 0, 5)), pieces(2, rect(0, 4, 0, 5))...)},
		{api.OK, append(pieces(1, rect(0, 4, 0, 5), rect(4, 8, 0, 5)), pieces(2, rect(3, 4, 0, 5), rect(0, 3, 1, 5))...)},
		{api.ErrCorrupt, append(pieces(1, rect(0, 4, 0, 5), rect(4, 8, 0, 5)), pieces(2, rect(3, 4, 0, 5), rect(0, 4, 1, 5))...)},
		{api.ErrCorrupt, append(pieces(1, rect(0, 4, 0, 5), rect(3, 8, 0, 5)), pieces(2, rect(3, 4, 0, 5))...)},
		// The other errors come first, wherever they are.
		{api.ErrOrder, append(pieces(1, rect(0, 4, 0, 5), rect(3, 8, 0, 5)), pieces(1, rect(3, 4, 0, 5))...)},
		{api.ErrInvalid, append(pieces(1, rect(0, 4, 0, 5), rect(3, 8, 0, 5)), pieces(2, rect(3, 3, 0, 5))...)},
	} {
		if err := delta.Check(c.l); err != c.want {
			t.Error("case", i, err)
		}
	}
}

// TestManyPieces takes minutes if every piece is compared with every other one.
func TestManyPieces(t *testing.T) {
	const n = 100000
	var l []api.Version
	for i := range n {
		l = append(l, pieces(7, rect(2*i, 2*i+2, i, n+i))...)
	}
	for i := range n {
		l = append(l, pieces(7, rect(2*i+1, 2*i+3, 3*n+i, forever))...)
	}
	start := time.Now()
	if err := delta.Check(l); err != api.OK {
		t.Error(err)
	}
	l[2*n-1].Valid.From--
	if err := delta.Check(l); err != api.ErrCorrupt {
		t.Error(err)
	}
	if d := time.Since(start); d > 20*time.Second {
		t.Error("too slow:", d)
	}
}
