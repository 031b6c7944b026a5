package span_test

import (
	"math"
	"slices"
	"testing"

	"bitemporal/api"
	"bitemporal/span"
)

// random returns a function that continues a fixed sequence of numbers from 0 to n - 1.
func random(seed uint64) func(n int) int {
	return func(n int) int {
		seed = seed*6364136223846793005 + 1442695040888963407
		return int(seed >> 33 % uint64(n))
	}
}

// periods returns a list of periods, given their bounds.
func periods(l ...int) []api.Period {
	var out []api.Period
	for i := 0; i < len(l); i += 2 {
		out = append(out, api.Period{From: l[i], To: l[i+1]})
	}
	return out
}

// samples are instants near the beginning and the end of time. The bounds of the lists of these tests are among them, so that each sample stands for all instants up to the next one.
func samples() []int {
	l := []int{0, 1, 2, 3, 4, 5, 6, 7}
	for t := api.Forever - 4; t < api.Forever; t++ {
		l = append(l, t)
	}
	return l
}

// someBounds are the samples, the end of time and numbers that are no bounds of valid periods.
func someBounds() []int {
	return append(samples(), api.Forever, api.Forever+1, math.MaxInt, -1, math.MinInt)
}

// somePeriods returns up to six periods, of which some are not valid.
func somePeriods(next func(n int) int) []api.Period {
	bounds := someBounds()
	var l []api.Period
	for range next(7) {
		from, to := bounds[next(len(bounds))], bounds[next(len(bounds))]
		if from > to && next(4) > 0 {
			from, to = to, from
		}
		l = append(l, api.Period{From: from, To: to})
	}
	return l
}

// isValid is the definition of a valid period.
func isValid(p api.Period) bool {
	return 0 <= p.From && p.From < p.To && p.To <= api.Forever
}

// standsFor is the definition of the instants that a list stands for.
func standsFor(l []api.Period, t int) bool {
	for _, p := range l {
		if isValid(p) && p.From <= t && t < p.To {
			return true
		}
	}
	return false
}

// spanOf returns the span of the samples for which in answers true, with all instants up to the next sample.
func spanOf(in func(t int) bool) []api.Period {
	all := append(samples(), api.Forever)
	var l []api.Period
	for i, t := range all[:len(all)-1] {
		switch {
		case !in(t):
		case len(l) > 0 && l[len(l)-1].To == t:
			l[len(l)-1].To = all[i+1]
		default:
			l = append(l, api.Period{From: t, To: all[i+1]})
		}
	}
	return l
}

// boundsOf is the definition of the bounds of a list.
func boundsOf(l []api.Period) []int {
	var out []int
	for _, t := range append(samples(), api.Forever) {
		if slices.ContainsFunc(l, func(p api.Period) bool { return isValid(p) && (p.From == t || p.To == t) }) {
			out = append(out, t)
		}
	}
	return out
}

// check compares periods with those that are required.
func check(t *testing.T, name string, got, want []api.Period, arguments ...[]api.Period) {
	t.Helper()
	if !slices.Equal(got, want) {
		t.Fatalf("%s of %v is %v, not %v", name, arguments, got, want)
	}
}

func TestResultsAgreeWithTheDefinitions(t *testing.T) {
	next := random(1)
	for range 4000 {
		a, b := somePeriods(next), somePeriods(next)
		inA := func(t int) bool { return standsFor(a, t) }
		inB := func(t int) bool { return standsFor(b, t) }
		check(t, "Of", span.Of(a), spanOf(inA), a)
		check(t, "Union", span.Union(a, b), spanOf(func(t int) bool { return inA(t) || inB(t) }), a, b)
		check(t, "Intersect", span.Intersect(a, b), spanOf(func(t int) bool { return inA(t) && inB(t) }), a, b)
		check(t, "Subtract", span.Subtract(a, b), spanOf(func(t int) bool { return inA(t) && !inB(t) }), a, b)
		check(t, "Complement", span.Complement(a), spanOf(func(t int) bool { return !inA(t) }), a)
	}
}

func TestContainsAgreesWithTheDefinition(t *testing.T) {
	next := random(2)
	for range 1000 {
		l := somePeriods(next)
		for _, at := range someBounds() {
			if got := span.Contains(l, at); got != standsFor(l, at) {
				t.Fatal(l, at, got)
			}
		}
	}
}

func TestCoversAgreesWithTheDefinition(t *testing.T) {
	next := random(3)
	covered := 0
	for range 4000 {
		a, b := somePeriods(next), somePeriods(next)
		want := true
		for _, at := range samples() {
			want = want && (standsFor(a, at) || !standsFor(b, at))
		}
		if got := span.Covers(a, b); got != want {
			t.Fatal(a, b, got)
		}
		if want && len(spanOf(func(t int) bool { return standsFor(b, t) })) > 0 {
			covered++
		}
	}
	if covered < 100 {
		t.Error("too few lists are covered:", covered)
	}
}

func TestNextAgreesWithTheDefinition(t *testing.T) {
	next := random(4)
	for range 1000 {
		l := somePeriods(next)
		for _, from := range someBounds() {
			want, is := 0, false
			for _, at := range samples() {
				if at >= from && standsFor(l, at) {
					want, is = at, true
					break
				}
			}
			if got, found := span.Next(l, from); got != want || found != is {
				t.Fatal(l, from, got, found, want, is)
			}
		}
	}
}

func TestPointsAndSlicesAgreeWithTheDefinition(t *testing.T) {
	next := random(5)
	for range 2000 {
		l := somePeriods(next)
		bounds := boundsOf(l)
		if got := span.Points(l); !slices.Equal(got, bounds) {
			t.Fatal(l, got, bounds)
		}
		var want []api.Period
		for i := 1; i < len(bounds); i++ {
			piece := api.Period{From: bounds[i-1], To: bounds[i]}
			if slices.ContainsFunc(l, func(p api.Period) bool { return isValid(p) && p.From <= piece.From && piece.To <= p.To }) {
				want = append(want, piece)
			}
		}
		check(t, "Slices", span.Slices(l), want, l)
	}
}

func TestLengthAgreesWithTheDefinition(t *testing.T) {
	next := random(6)
	all := append(samples(), api.Forever)
	for range 1000 {
		l := somePeriods(next)
		want := 0
		for i, at := range samples() {
			if standsFor(l, at) {
				want += all[i+1] - at
			}
		}
		if got := span.Length(l); got != want {
			t.Fatal(l, got, want)
		}
	}
}

func TestValidAgreesWithTheDefinition(t *testing.T) {
	next := random(7)
	bounds := someBounds()
	valid, not := 0, 0
	for range 4000 {
		l := somePeriods(next)
		l = spanOf(func(t int) bool { return standsFor(l, t) })
		check(t, "Of a span", span.Of(l), l)
		if len(l) > 0 { // spans are rare among other lists
			l[next(len(l))].From = bounds[next(len(bounds))]
		}
		want := slices.Equal(l, spanOf(func(t int) bool { return standsFor(l, t) }))
		if got := span.Valid(l); got != want {
			t.Fatal(l, got)
		}
		if want && len(l) > 1 {
			valid++
		} else if !want && len(l) > 1 {
			not++
		}
	}
	if valid < 100 || not < 100 {
		t.Error("the lists are too much alike:", valid, not)
	}
}
