package clock_test

import (
	"math"
	"slices"
	"testing"

	"bitemporal/api"
	"bitemporal/clock"
)

const end = api.Forever

// random returns a function that continues a fixed sequence of numbers from 0 to n - 1.
func random(seed uint64) func(n int) int {
	return func(n int) int {
		seed = seed*6364136223846793005 + 1442695040888963407
		return int(seed >> 33 % uint64(n))
	}
}

// stamps returns a list of stamps, given the time and the reading of each.
func stamps(l ...int) []api.Stamp {
	var out []api.Stamp
	for i := 0; i < len(l); i += 2 {
		out = append(out, api.Stamp{Time: l[i], Wall: l[i+1]})
	}
	return out
}

// someNumbers are instants near the beginning and the end of time, and numbers that are no instants.
func someNumbers() []int {
	return []int{0, 1, 2, 3, 4, 5, 6, 7, end - 4, end - 3, end - 2, end - 1, end, end + 1, math.MaxInt - 1, math.MaxInt, -1, math.MinInt, math.MinInt + 1}
}

// someReadings returns up to eight readings, most of them small.
func someReadings(next func(n int) int) []int {
	var l []int
	for range next(9) {
		switch next(12) {
		case 0:
			l = append(l, end-1-next(12))
		default:
			l = append(l, next(12))
		}
	}
	return l
}

// isInstant is the definition of an instant and of a reading.
func isInstant(t int) bool {
	return t >= 0 && t < end
}

// timeOf is the definition of the time after a previous one for a reading.
func timeOf(last, wall int) int {
	if wall > last {
		return wall
	}
	return last + 1
}

// stampsOf returns the stamps for readings, and whether there are times for all of them.
func stampsOf(readings []int) ([]api.Stamp, bool) {
	var l []api.Stamp
	last := 0
	for _, wall := range readings {
		last = timeOf(last, wall)
		if last >= end {
			return nil, false
		}
		l = append(l, api.Stamp{Time: last, Wall: wall})
	}
	return l, true
}

// errorOf is the definition of the result of Check.
func errorOf(l []api.Stamp) api.Errno {
	last := 0
	for _, s := range l {
		switch {
		case !isInstant(s.Wall), !isInstant(s.Time):
			return api.ErrRange
		case s.Time <= last:
			return api.ErrOrder
		case s.Time != timeOf(last, s.Wall):
			return api.ErrInvalid
		}
		last = s.Time
	}
	return api.OK
}

// mayHaveShown is the definition of a reading that the wall clock may have shown at a system time.
func mayHaveShown(l []api.Stamp, wall, time int) bool {
	begin := api.Stamp{}
	for _, s := range l {
		if s.Time > time {
			if s.Wall >= begin.Wall {
				return begin.Wall <= wall && wall <= s.Wall
			}
			return wall >= begin.Wall || wall <= s.Wall
		}
		begin = s
	}
	return wall >= begin.Wall
}

// shownOf returns the periods of the times at which the wall clock may have shown a reading, which change at the times of stamps only.
func shownOf(l []api.Stamp, wall int) []api.Period {
	bounds := []int{0}
	for _, s := range l {
		bounds = append(bounds, s.Time)
	}
	bounds = append(bounds, end)
	var out []api.Period
	for i, t := range bounds[:len(bounds)-1] {
		switch {
		case !mayHaveShown(l, wall, t):
		case len(out) > 0 && out[len(out)-1].To == t:
			out[len(out)-1].To = bounds[i+1]
		default:
			out = append(out, api.Period{From: t, To: bounds[i+1]})
		}
	}
	return out
}

// covers reports whether one of the periods contains an instant.
func covers(l []api.Period, t int) bool {
	return slices.ContainsFunc(l, func(p api.Period) bool { return p.From <= t && t < p.To })
}

func TestNextAndBehindAgreeWithTheDefinitions(t *testing.T) {
	for _, last := range someNumbers() {
		for _, before := range someNumbers() {
			for _, wall := range someNumbers() {
				c := api.Clock{Last: last, Wall: before}
				behind := 0
				var next api.Clock
				want := api.OK
				switch {
				case before < 0 || before > last || last >= end:
					want = api.ErrInvalid
				case !isInstant(wall):
					want = api.ErrRange
				case last == end-1:
					want = api.ErrClock
				default:
					next = api.Clock{Last: timeOf(last, wall), Wall: wall}
				}
				if want != api.ErrInvalid && want != api.ErrRange && wall < last {
					behind = last - wall
				}
				if got, time, err := clock.Next(c, wall); got != next || time != next.Last || err != want {
					t.Fatal(c, wall, got, time, err)
				}
				if got := clock.Behind(c, wall); got != behind {
					t.Fatal(c, wall, got, behind)
				}
			}
		}
	}
}

// someStamps returns stamps that are valid, or differ from valid ones in one number.
func someStamps(next func(n int) int) []api.Stamp {
	l, ok := stampsOf(someReadings(next))
	if !ok || len(l) == 0 || next(3) == 0 {
		return l
	}
	at := &l[next(len(l))]
	numbers := someNumbers()
	switch next(4) {
	case 0:
		at.Time = numbers[next(len(numbers))]
	case 1:
		at.Wall = numbers[next(len(numbers))]
	case 2:
		at.Time += next(5) - 2
	case 3:
		at.Wall += next(5) - 2
	}
	return l
}

func TestCheckAgreesWithTheDefinition(t *testing.T) {
	next := random(1)
	seen := map[api.Errno]int{}
	for range 20000 {
		l := someStamps(next)
		want := errorOf(l)
		if got := clock.Check(l); got != want {
			t.Fatal(l, got, want)
		}
		seen[want]++
	}
	for _, err := range []api.Errno{api.OK, api.ErrRange, api.ErrOrder, api.ErrInvalid} {
		if seen[err] < 500 {
			t.Error("too few lists with the result", err, seen[err])
		}
	}
}

func TestShownAgreesWithTheDefinition(t *testing.T) {
	next := random(2)
	for range 3000 {
		l := someStamps(next)
		walls := someNumbers()
		for _, s := range l {
			walls = append(walls, s.Wall, s.Wall-1)
		}
		for _, wall := range walls {
			var want []api.Period
			if errorOf(l) == api.OK && isInstant(wall) {
				want = shownOf(l, wall)
			}
			if got := clock.Shown(l, wall); !slices.Equal(got, want) {
				t.Fatal(l, wall, got, want)
			}
		}
	}
}

func TestStepsAndLatestAgreeWithTheDefinitions(t *testing.T) {
	next := random(3)
	numbers := someNumbers()
	for range 3000 {
		var l []api.Stamp
		for range next(6) {
			l = append(l, api.Stamp{Time: numbers[next(len(numbers))], Wall: numbers[next(len(numbers))]})
		}
		var steps []int
		for i := 1; i < len(l); i++ {
			if l[i].Wall < l[i-1].Wall {
				steps = append(steps, i)
			}
		}
		if got := clock.Steps(l); !slices.Equal(got, steps) {
			t.Fatal(l, got, steps)
		}
		for _, time := range numbers {
			var latest api.Stamp
			is := false
			for _, s := range l {
				if s.Time <= time {
					latest, is = s, true
				}
			}
			if got, found := clock.Latest(l, time); got != latest || found != is {
				t.Fatal(l, time, got, found)
			}
		}
	}
}

func TestReplayAgreesWithTheDefinition(t *testing.T) {
	next := random(4)
	for range 3000 {
		readings := someReadings(next)
		want, ok := stampsOf(readings)
		got, err := clock.Replay(readings)
		if !slices.Equal(got, want) || ok != (err == api.OK) || !ok && err != api.ErrClock {
			t.Fatal(readings, got, err)
		}
		if clock.Check(got) != api.OK {
			t.Fatal(readings, got)
		}
		last := 0
		for i, s := range got {
			if s.Time <= last || s.Time < s.Wall || s.Wall != readings[i] {
				t.Fatal(readings, got)
			}
			if shown := clock.Shown(got, s.Wall); !covers(shown, s.Time) {
				t.Fatal(got, s, shown)
			}
			last = s.Time
		}
	}
}
