package clock_test

import (
	"math"
	"slices"
	"testing"

	"bitemporal/api"
	"bitemporal/clock"
)

func TestNext(t *testing.T) {
	for _, c := range []struct {
		c    api.Clock
		wall int
		next api.Clock
		time int
		err  api.Errno
	}{
		{api.Clock{Last: 80, Wall: 80}, 50, api.Clock{Last: 81, Wall: 50}, 81, api.OK},
		{api.Clock{Last: 80, Wall: 50}, 80, api.Clock{Last: 81, Wall: 80}, 81, api.OK},
		{api.Clock{Last: 80, Wall: 50}, 81, api.Clock{Last: 81, Wall: 81}, 81, api.OK},
		{api.Clock{Last: 80, Wall: 50}, 82, api.Clock{Last: 82, Wall: 82}, 82, api.OK},
		{api.Clock{Last: 80, Wall: 0}, 0, api.Clock{Last: 81}, 81, api.OK},
		{api.Clock{}, 0, api.Clock{Last: 1}, 1, api.OK},
		{api.Clock{}, 1, api.Clock{Last: 1, Wall: 1}, 1, api.OK},
		{api.Clock{}, 5, api.Clock{Last: 5, Wall: 5}, 5, api.OK},
		{api.Clock{}, end - 1, api.Clock{Last: end - 1, Wall: end - 1}, end - 1, api.OK},
		{api.Clock{Last: end - 2}, 0, api.Clock{Last: end - 1}, end - 1, api.OK},
		{api.Clock{Last: end - 1}, 0, api.Clock{}, 0, api.ErrClock},
		{api.Clock{Last: end - 1, Wall: end - 1}, end - 1, api.Clock{}, 0, api.ErrClock},
		{api.Clock{Last: end - 1}, end, api.Clock{}, 0, api.ErrRange},
		{api.Clock{Last: end - 1}, -1, api.Clock{}, 0, api.ErrRange},
		{api.Clock{}, math.MinInt, api.Clock{}, 0, api.ErrRange},
		{api.Clock{}, math.MaxInt, api.Clock{}, 0, api.ErrRange},
		{api.Clock{Last: 3, Wall: 4}, 5, api.Clock{}, 0, api.ErrInvalid},
		{api.Clock{Last: 3, Wall: 4}, -1, api.Clock{}, 0, api.ErrInvalid},
		{api.Clock{Last: -1, Wall: -1}, 5, api.Clock{}, 0, api.ErrInvalid},
		{api.Clock{Last: 3, Wall: -1}, 5, api.Clock{}, 0, api.ErrInvalid},
		{api.Clock{Last: end, Wall: 4}, 5, api.Clock{}, 0, api.ErrInvalid},
		{api.Clock{Last: math.MaxInt, Wall: math.MinInt}, end, api.Clock{}, 0, api.ErrInvalid},
	} {
		if next, time, err := clock.Next(c.c, c.wall); next != c.next || time != c.time || err != c.err {
			t.Error(c, next, time, err)
		}
	}
}

func TestBehind(t *testing.T) {
	for _, c := range []struct {
		c          api.Clock
		wall, want int
	}{
		{api.Clock{Last: 80, Wall: 80}, 50, 30},
		{api.Clock{Last: 80, Wall: 20}, 50, 30},
		{api.Clock{Last: 80, Wall: 80}, 79, 1},
		{api.Clock{Last: 80, Wall: 80}, 80, 0},
		{api.Clock{Last: 80, Wall: 80}, 81, 0},
		{api.Clock{Last: end - 1, Wall: 80}, 0, end - 1},
		{api.Clock{}, 0, 0},
		{api.Clock{Last: 80, Wall: 80}, -1, 0},
		{api.Clock{Last: 80, Wall: 80}, math.MinInt, 0},
		{api.Clock{Last: 80, Wall: 80}, end, 0},
		{api.Clock{Last: 80, Wall: 81}, 50, 0},
		{api.Clock{Last: 80, Wall: -1}, 50, 0},
		{api.Clock{Last: end, Wall: 80}, 50, 0},
		{api.Clock{Last: math.MaxInt}, 50, 0},
	} {
		if got := clock.Behind(c.c, c.wall); got != c.want {
			t.Error(c, got)
		}
	}
}

func TestCheck(t *testing.T) {
	for _, c := range []struct {
		l    []api.Stamp
		want api.Errno
	}{
		{nil, api.OK},
		{[]api.Stamp{}, api.OK},
		{stamps(5, 5, 6, 3, 9, 9), api.OK},
		{stamps(1, 0), api.OK},
		{stamps(1, 1), api.OK},
		{stamps(1, 0, 2, 0, 3, 1), api.OK},
		{stamps(end-2, end-2, end-1, 0), api.OK},
		{stamps(0, 0), api.ErrOrder},
		{stamps(0, 1), api.ErrOrder},
		{stamps(5, 5, 5, 5), api.ErrOrder},
		{stamps(5, 5, 4, 4), api.ErrOrder},
		{stamps(2, 0), api.ErrInvalid},
		{stamps(6, 5), api.ErrInvalid},
		{stamps(4, 5), api.ErrInvalid},
		{stamps(5, 5, 7, 3), api.ErrInvalid},
		{stamps(5, 5, 6, 8), api.ErrInvalid},
		{stamps(5, -1), api.ErrRange},
		{stamps(5, end), api.ErrRange},
		{stamps(-1, 0), api.ErrRange},
		{stamps(end, 5), api.ErrRange},
		{stamps(end-1, end-1, end, 0), api.ErrRange},
		{stamps(0, -1), api.ErrRange},
		{stamps(math.MaxInt, math.MinInt), api.ErrRange},
		{stamps(6, 5, 5, 5), api.ErrInvalid},
		{stamps(5, 5, 5, 5, 9, -1), api.ErrOrder},
		{stamps(5, 5, 9, -1, 5, 5), api.ErrRange},
		{stamps(5, 5, 6, 3, 9, 8), api.ErrInvalid},
	} {
		if got := clock.Check(c.l); got != c.want {
			t.Error(c.l, got, c.want)
		}
	}
}

func TestSteps(t *testing.T) {
	for _, c := range []struct {
		l    []api.Stamp
		want []int
	}{
		{nil, nil},
		{stamps(5, 5), nil},
		{stamps(5, 5, 6, 3, 9, 9), []int{1}},
		{stamps(5, 5, 6, 5, 9, 9), nil},
		{stamps(5, 5, 6, 3, 7, 2, 8, 2, 9, 1), []int{1, 2, 4}},
		{stamps(0, 3, 0, math.MinInt, -5, math.MaxInt, 7, -1), []int{1, 3}},
	} {
		if got := clock.Steps(c.l); !slices.Equal(got, c.want) {
			t.Error(c.l, got)
		}
	}
}

func TestLatest(t *testing.T) {
	l := stamps(5, 5, 6, 3, 9, 9)
	for _, c := range []struct {
		l    []api.Stamp
		time int
		want api.Stamp
		is   bool
	}{
		{l, 8, api.Stamp{Time: 6, Wall: 3}, true},
		{l, 5, api.Stamp{Time: 5, Wall: 5}, true},
		{l, 6, api.Stamp{Time: 6, Wall: 3}, true},
		{l, 9, api.Stamp{Time: 9, Wall: 9}, true},
		{l, math.MaxInt, api.Stamp{Time: 9, Wall: 9}, true},
		{l, 4, api.Stamp{}, false},
		{l, -1, api.Stamp{}, false},
		{l, math.MinInt, api.Stamp{}, false},
		{nil, 8, api.Stamp{}, false},
		{stamps(9, 1, 3, 2, 7, 3, 3, 4, 8, 5), 6, api.Stamp{Time: 3, Wall: 4}, true},
		{stamps(9, 1, 0, 0), 6, api.Stamp{}, true},
		{stamps(-4, -4, math.MinInt, -7), -2, api.Stamp{Time: math.MinInt, Wall: -7}, true},
	} {
		if got, is := clock.Latest(c.l, c.time); got != c.want || is != c.is {
			t.Error(c, got, is)
		}
	}
}

func TestShown(t *testing.T) {
	l := stamps(5, 5, 6, 3, 9, 9)
	for _, c := range []struct {
		l    []api.Stamp
		wall int
		want []api.Period
	}{
		{nil, 0, []api.Period{{From: 0, To: end}}},
		{nil, end - 1, []api.Period{{From: 0, To: end}}},
		{nil, end, nil},
		{nil, -1, nil},
		{l, 4, []api.Period{{From: 0, To: 5}, {From: 6, To: 9}}},
		{l, 2, []api.Period{{From: 0, To: 6}}},
		{l, 0, []api.Period{{From: 0, To: 6}}},
		{l, 3, []api.Period{{From: 0, To: 9}}},
		{l, 5, []api.Period{{From: 0, To: 9}}},
		{l, 6, []api.Period{{From: 5, To: 9}}},
		{l, 9, []api.Period{{From: 5, To: end}}},
		{l, 10, []api.Period{{From: 5, To: 6}, {From: 9, To: end}}},
		{l, end - 1, []api.Period{{From: 5, To: 6}, {From: 9, To: end}}},
		{l, end, nil},
		{l, -1, nil},
		{l, math.MinInt, nil},
		{l, math.MaxInt, nil},
		{stamps(5, 5, 9, 9), 4, []api.Period{{From: 0, To: 5}}},
		{stamps(5, 5, 9, 9), 7, []api.Period{{From: 5, To: 9}}},
		{stamps(5, 5, 6, 5, 7, 5), 5, []api.Period{{From: 0, To: end}}},
		{stamps(5, 5, 6, 5, 7, 5), 6, []api.Period{{From: 7, To: end}}},
		{stamps(5, 5, 6, 3), 4, []api.Period{{From: 0, To: 5}, {From: 6, To: end}}},
		{stamps(5, 5, 6, 3), 6, []api.Period{{From: 5, To: end}}},
		{stamps(end-1, end-1), 0, []api.Period{{From: 0, To: end - 1}}},
		{stamps(end-1, end-1), end - 1, []api.Period{{From: 0, To: end}}},
		{stamps(5, 5, 5, 5), 4, nil},
		{stamps(6, 5), 4, nil},
		{stamps(5, -1), 4, nil},
	} {
		if got := clock.Shown(c.l, c.wall); !slices.Equal(got, c.want) {
			t.Error(c.l, c.wall, got, c.want)
		}
	}
}

func TestReplay(t *testing.T) {
	for _, c := range []struct {
		readings []int
		want     []api.Stamp
		err      api.Errno
	}{
		{nil, nil, api.OK},
		{[]int{5, 3, 9}, stamps(5, 5, 6, 3, 9, 9), api.OK},
		{[]int{0, 0, 0}, stamps(1, 0, 2, 0, 3, 0), api.OK},
		{[]int{5, 3, 9, 2, 2, 12}, stamps(5, 5, 6, 3, 9, 9, 10, 2, 11, 2, 12, 12), api.OK},
		{[]int{1, 2, 3, 7, end - 1}, stamps(1, 1, 2, 2, 3, 3, 7, 7, end-1, end-1), api.OK},
		{[]int{end - 2, 4}, stamps(end-2, end-2, end-1, 4), api.OK},
		{[]int{5, -1}, nil, api.ErrRange},
		{[]int{end}, nil, api.ErrRange},
		{[]int{math.MinInt}, nil, api.ErrRange},
		{[]int{end - 1, 0}, nil, api.ErrClock},
		{[]int{end - 1, end - 1}, nil, api.ErrClock},
		{[]int{end - 1, end}, nil, api.ErrRange},
		{[]int{end - 1, 0, -1}, nil, api.ErrClock},
		{[]int{math.MaxInt, end - 1, 0}, nil, api.ErrRange},
	} {
		if got, err := clock.Replay(c.readings); !slices.Equal(got, c.want) || err != c.err {
			t.Error(c.readings, got, err)
		}
	}
}

func TestAscendingReadingsAreTheTimes(t *testing.T) {
	next := random(5)
	for range 500 {
		var readings []int
		for at := 1 + next(4); len(readings) < 20; at += 1 + next(4) {
			readings = append(readings, at)
		}
		got, err := clock.Replay(readings)
		for i, s := range got {
			if s != (api.Stamp{Time: readings[i], Wall: readings[i]}) {
				t.Fatal(readings, got)
			}
		}
		if len(got) != len(readings) || err != api.OK || len(clock.Steps(got)) > 0 {
			t.Fatal(readings, got, err)
		}
	}
}

func TestManyStamps(t *testing.T) {
	const n = 200000
	next := random(6)
	var readings []int
	for range n {
		readings = append(readings, next(n))
	}
	l, err := clock.Replay(readings)
	if len(l) != n || err != api.OK || clock.Check(l) != api.OK {
		t.Fatal(len(l), err)
	}
	if steps := clock.Steps(l); len(steps) < n/3 {
		t.Error(len(steps))
	}
	shown := clock.Shown(l, n/2)
	for i := 1; i < len(shown); i++ {
		if shown[i-1].To >= shown[i].From {
			t.Fatal(shown[i-1], shown[i])
		}
	}
	for range 100 {
		at := l[next(n)].Time + next(2)
		if got := covers(shown, at); got != mayHaveShown(l, n/2, at) {
			t.Error(at, got)
		}
	}
}

func TestArgumentsAreKept(t *testing.T) {
	first := stamps(5, 5, 6, 3, 9, 9)
	l := slices.Grow(slices.Clone(first), 9)
	readings := slices.Grow([]int{5, 3, 9}, 9)
	for range 2 {
		clear(clock.Shown(l, 4))
		clear(clock.Steps(l))
		got, _ := clock.Replay(readings)
		if !slices.Equal(got, first) {
			t.Error(got)
		}
		clear(got)
		clock.Check(l)
		clock.Latest(l, 7)
	}
	if !slices.Equal(l, first) || !slices.Equal(readings, []int{5, 3, 9}) {
		t.Error(l, readings)
	}
	for _, s := range l[len(l):cap(l)] {
		if s != (api.Stamp{}) {
			t.Error("the spare capacity of an argument was used")
		}
	}
	for _, wall := range readings[len(readings):cap(readings)] {
		if wall != 0 {
			t.Error("the spare capacity of an argument was used")
		}
	}
}
