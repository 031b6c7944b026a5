package steps_test

import (
	"math"
	"slices"
	"testing"

	"bitemporal/api"
	"bitemporal/steps"
)

// random returns a function that continues a fixed sequence of numbers from 0 to n - 1.
func random(seed uint64) func(n int) int {
	return func(n int) int {
		seed = seed*6364136223846793005 + 1442695040888963407
		return int(seed >> 33 % uint64(n))
	}
}

// samples are instants near the beginning and the end of time. The functions of these tests change at some of them, so that each sample stands for all instants up to the next one.
func samples() []int {
	l := []int{0, 1, 2, 3, 4, 5, 6, 7}
	for t := api.Forever - 4; t < api.Forever; t++ {
		l = append(l, t)
	}
	return l
}

// someNumbers are values of which sums and differences wrap around, and small ones, so that equal values are frequent.
func someNumbers() []int {
	return []int{-2, -1, 0, 0, 0, 1, 1, 2, 3, math.MaxInt, math.MinInt, math.MinInt + 1}
}

// someCounted returns up to six periods with numbers, of which some periods are not valid.
func someCounted(next func(n int) int) []api.Counted {
	bounds := append(samples(), api.Forever, api.Forever+1, math.MaxInt, -1, math.MinInt)
	numbers := someNumbers()
	var l []api.Counted
	for range next(7) {
		from, to := bounds[next(len(bounds))], bounds[next(len(bounds))]
		if from > to && next(4) > 0 {
			from, to = to, from
		}
		l = append(l, api.Counted{Period: api.Period{From: from, To: to}, N: numbers[next(len(numbers))]})
	}
	return l
}

// someSteps returns a valid list of steps with some of the given values.
func someSteps(next func(n int) int, numbers []int) []api.Step {
	var l []api.Step
	for i, t := range samples() {
		n := numbers[next(len(numbers))]
		if i == 0 || next(2) > 0 && l[len(l)-1].N != n {
			l = append(l, api.Step{From: t, N: n})
		}
	}
	return l
}

// valueOf is the definition of the value at an instant.
func valueOf(l []api.Step, t int) int {
	n := 0
	for _, s := range l {
		if s.From <= t {
			n = s.N
		}
	}
	return n
}

// sumOf is the definition of the sum of numbers during an instant.
func sumOf(l []api.Counted, t int) int {
	n := 0
	for _, c := range l {
		p := c.Period
		if 0 <= p.From && p.From < p.To && p.To <= api.Forever && p.From <= t && t < p.To {
			n += c.N
		}
	}
	return n
}

// stepsOf returns the valid list of the function with these values at the samples.
func stepsOf(value func(t int) int) []api.Step {
	var l []api.Step
	for _, t := range samples() {
		if t == 0 || value(t) != l[len(l)-1].N {
			l = append(l, api.Step{From: t, N: value(t)})
		}
	}
	return l
}

// spanOf returns the span of the samples for which in answers true, with all instants up to the next sample.
func spanOf(in func(t int) bool) []api.Period {
	all := append(samples(), api.Forever)
	var l []api.Period
	for i, t := range all[:len(all)-1] {
		switch {
		case !in(t):
		case len(l) > 0 && l[len(l)-1].To == t:
			l[len(l)-1].To = all[i+1]
		default:
			l = append(l, api.Period{From: t, To: all[i+1]})
		}
	}
	return l
}

// check compares steps with those that are required.
func check(t *testing.T, name string, got, want []api.Step, arguments ...any) {
	t.Helper()
	if !slices.Equal(got, want) {
		t.Fatalf("%s of %v is %v, not %v", name, arguments, got, want)
	}
	if !steps.Valid(got) {
		t.Fatalf("%s of %v is %v, which is not valid", name, arguments, got)
	}
}

func TestOfAgreesWithTheDefinition(t *testing.T) {
	next := random(1)
	for range 5000 {
		l := someCounted(next)
		check(t, "Of", steps.Of(l), stepsOf(func(t int) int { return sumOf(l, t) }), l)
	}
}

func TestAtAgreesWithTheDefinition(t *testing.T) {
	next := random(2)
	for range 500 {
		l := someSteps(next, someNumbers())
		for _, at := range samples() {
			if got := steps.At(l, at); got != valueOf(l, at) {
				t.Fatal(l, at, got)
			}
		}
		for _, at := range []int{100, 1 << 20, api.Forever - 100} {
			if got := steps.At(l, at); got != valueOf(l, 7) {
				t.Fatal(l, at, got)
			}
		}
		for _, at := range []int{math.MinInt, -1, api.Forever, api.Forever + 1, math.MaxInt} {
			if got := steps.At(l, at); got != 0 {
				t.Fatal(l, at, got)
			}
		}
	}
}

func TestCombinationsAgreeWithTheDefinitions(t *testing.T) {
	next := random(3)
	for range 3000 {
		a, b := someSteps(next, someNumbers()), someSteps(next, someNumbers())
		for _, c := range []struct {
			name      string
			got       []api.Step
			operation func(x, y int) int
		}{
			{"Add", steps.Add(a, b), func(x, y int) int { return x + y }},
			{"Sub", steps.Sub(a, b), func(x, y int) int { return x - y }},
			{"Min", steps.Min(a, b), func(x, y int) int { return slices.Min([]int{x, y}) }},
			{"Max", steps.Max(a, b), func(x, y int) int { return slices.Max([]int{x, y}) }},
			{"Clip", steps.Clip(a), func(x, y int) int { return slices.Max([]int{x, 0}) }},
		} {
			check(t, c.name, c.got, stepsOf(func(t int) int { return c.operation(valueOf(a, t), valueOf(b, t)) }), a, b)
		}
	}
}

func TestAtLeastAgreesWithTheDefinition(t *testing.T) {
	next := random(4)
	for range 1000 {
		l := someSteps(next, someNumbers())
		for _, n := range []int{math.MinInt, math.MinInt + 1, math.MinInt + 2, -1, 0, 1, 2, 3, 4, math.MaxInt} {
			want := spanOf(func(t int) bool { return valueOf(l, t) >= n })
			if got := steps.AtLeast(l, n); !slices.Equal(got, want) {
				t.Fatal(l, n, got, want)
			}
		}
	}
}

// inOrder compares periods by From, then by To.
func inOrder(p, q api.Period) int {
	switch {
	case p == q:
		return 0
	case p.From < q.From || p.From == q.From && p.To < q.To:
		return -1
	}
	return 1
}

func TestLevelsAgreeWithTheDefinition(t *testing.T) {
	next := random(5)
	for range 3000 {
		l := someSteps(next, []int{math.MinInt, -1, 0, 0, 1, 2, 3, 5})
		var want []api.Period
		for n := 1; n <= 5; n++ {
			want = append(want, spanOf(func(t int) bool { return valueOf(l, t) >= n })...)
		}
		slices.SortFunc(want, inOrder)
		if got := steps.Levels(l); !slices.Equal(got, want) {
			t.Fatal(l, got, want)
		}
	}
}
