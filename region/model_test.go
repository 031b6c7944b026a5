package region_test

import (
	"math"
	"slices"
	"testing"

	"bitemporal/api"
	"bitemporal/region"
	"bitemporal/span"
)

// random returns a function that continues a fixed sequence of numbers from 0 to n - 1.
func random(seed uint64) func(n int) int {
	return func(n int) int {
		seed = seed*6364136223846793005 + 1442695040888963407
		return int(seed >> 33 % uint64(n))
	}
}

// rects returns a list of rectangles, given the bounds of valid time and of system time of each.
func rects(l ...int) []api.Rect {
	var out []api.Rect
	for i := 0; i < len(l); i += 4 {
		out = append(out, api.Rect{Valid: api.Period{From: l[i], To: l[i+1]}, System: api.Period{From: l[i+2], To: l[i+3]}})
	}
	return out
}

// samples are instants near the beginning and the end of time. The bounds of the rectangles of these tests are among them, so that each sample stands for all instants up to the next one.
func samples() []int {
	l := []int{0, 1, 2, 3, 4, 5}
	for t := api.Forever - 2; t < api.Forever; t++ {
		l = append(l, t)
	}
	return l
}

// someBounds are the samples, the end of time and numbers that are no bounds of valid periods.
func someBounds() []int {
	return append(samples(), api.Forever, api.Forever+1, math.MaxInt, -1, math.MinInt)
}

// somePeriod returns a period that is sometimes not valid.
func somePeriod(next func(n int) int) api.Period {
	bounds := append(samples(), api.Forever)
	if next(8) == 0 {
		bounds = someBounds()
	}
	from, to := bounds[next(len(bounds))], bounds[next(len(bounds))]
	if from > to && next(8) > 0 {
		from, to = to, from
	}
	return api.Period{From: from, To: to}
}

// someRects returns up to seven rectangles, of which some are not valid.
func someRects(next func(n int) int) []api.Rect {
	var l []api.Rect
	for range next(8) {
		l = append(l, api.Rect{Valid: somePeriod(next), System: somePeriod(next)})
	}
	return l
}

// isValid is the definition of a valid rectangle.
func isValid(r api.Rect) bool {
	return 0 <= r.Valid.From && r.Valid.From < r.Valid.To && r.Valid.To <= api.Forever &&
		0 <= r.System.From && r.System.From < r.System.To && r.System.To <= api.Forever
}

// standsFor is the definition of the points that a list stands for.
func standsFor(l []api.Rect, v, s int) bool {
	for _, r := range l {
		if isValid(r) && r.Valid.From <= v && v < r.Valid.To && r.System.From <= s && s < r.System.To {
			return true
		}
	}
	return false
}

// spanOf returns the span of the samples for which in answers true, with all instants up to the next sample.
func spanOf(in func(t int) bool) []api.Period {
	all := append(samples(), api.Forever)
	var l []api.Period
	for i, t := range all[:len(all)-1] {
		switch {
		case !in(t):
		case len(l) > 0 && l[len(l)-1].To == t:
			l[len(l)-1].To = all[i+1]
		default:
			l = append(l, api.Period{From: t, To: all[i+1]})
		}
	}
	return l
}

// regionOf is the definition of the region of a set of points.
func regionOf(in func(v, s int) bool) []api.Rect {
	all := append(samples(), api.Forever)
	slice := func(i int) []api.Period {
		return spanOf(func(v int) bool { return in(v, all[i]) })
	}
	var l []api.Rect
	for i := 0; i < len(all)-1; {
		end := i + 1
		for end < len(all)-1 && slices.Equal(slice(end), slice(i)) {
			end++
		}
		for _, valid := range slice(i) {
			l = append(l, api.Rect{Valid: valid, System: api.Period{From: all[i], To: all[end]}})
		}
		i = end
	}
	return l
}

// check compares rectangles with those that are required.
func check(t *testing.T, name string, got, want []api.Rect, arguments ...[]api.Rect) {
	t.Helper()
	if !slices.Equal(got, want) {
		t.Fatalf("%s of %v is %v, not %v", name, arguments, got, want)
	}
	if !region.Valid(got) {
		t.Fatalf("%s of %v is %v, which is no region", name, arguments, got)
	}
}

func TestResultsAgreeWithTheDefinitions(t *testing.T) {
	next := random(1)
	for range 4000 {
		a, b := someRects(next), someRects(next)
		inA := func(v, s int) bool { return standsFor(a, v, s) }
		inB := func(v, s int) bool { return standsFor(b, v, s) }
		check(t, "Of", region.Of(a), regionOf(inA), a)
		check(t, "Union", region.Union(a, b), regionOf(func(v, s int) bool { return inA(v, s) || inB(v, s) }), a, b)
		check(t, "Intersect", region.Intersect(a, b), regionOf(func(v, s int) bool { return inA(v, s) && inB(v, s) }), a, b)
		check(t, "Subtract", region.Subtract(a, b), regionOf(func(v, s int) bool { return inA(v, s) && !inB(v, s) }), a, b)
	}
}

func TestContainsSliceAndSectionAgreeWithTheDefinitions(t *testing.T) {
	next := random(2)
	for range 300 {
		l := someRects(next)
		for _, x := range someBounds() {
			for _, y := range someBounds() {
				if got := region.Contains(l, x, y); got != standsFor(l, x, y) {
					t.Fatal(l, x, y, got)
				}
			}
			if got, want := region.Slice(l, x), spanOf(func(v int) bool { return standsFor(l, v, x) }); !slices.Equal(got, want) {
				t.Fatal(l, x, got, want)
			}
			if got, want := region.Section(l, x), spanOf(func(s int) bool { return standsFor(l, x, s) }); !slices.Equal(got, want) {
				t.Fatal(l, x, got, want)
			}
		}
	}
}

func TestOverlapsAgreesWithTheDefinition(t *testing.T) {
	next := random(3)
	overlapping := 0
	for range 10000 {
		a, b := api.Rect{Valid: somePeriod(next), System: somePeriod(next)}, api.Rect{Valid: somePeriod(next), System: somePeriod(next)}
		want := false
		for _, v := range samples() {
			for _, s := range samples() {
				want = want || standsFor([]api.Rect{a}, v, s) && standsFor([]api.Rect{b}, v, s)
			}
		}
		if got := region.Overlaps(a, b); got != want {
			t.Fatal(a, b, got)
		}
		if common := region.Intersect([]api.Rect{a}, []api.Rect{b}); len(common) > 0 != want {
			t.Fatal(a, b, common)
		}
		if want {
			overlapping++
		}
	}
	if overlapping < 1000 {
		t.Error("too few rectangles overlap:", overlapping)
	}
}

// altered returns a list that differs from l a little, as regions are rare among other lists.
func altered(l []api.Rect, next func(n int) int) []api.Rect {
	if len(l) == 0 {
		return l
	}
	out := slices.Clone(l)
	i, j := next(len(l)), next(len(l))
	bounds := someBounds()
	at := bounds[next(len(bounds))]
	switch next(8) {
	case 0:
		out[i], out[j] = out[j], out[i]
	case 1:
		out = slices.Delete(out, i, i+1)
	case 2:
		out = slices.Insert(out, i, l[j])
	case 3:
		out[i].Valid.From = at
	case 4:
		out[i].Valid.To = at
	case 5:
		out[i].System.From = at
	case 6:
		out[i].System.To = at
	}
	return out
}

func TestValidAgreesWithTheDefinition(t *testing.T) {
	next := random(4)
	valid, not := 0, 0
	for range 10000 {
		l := altered(region.Of(someRects(next)), next)
		want := slices.Equal(l, regionOf(func(v, s int) bool { return standsFor(l, v, s) }))
		if got := region.Valid(l); got != want {
			t.Fatal(l, got)
		}
		if want && len(l) > 1 {
			valid++
		} else if !want && len(l) > 1 {
			not++
		}
	}
	if valid < 1000 || not < 1000 {
		t.Error("the lists are too much alike:", valid, not)
	}
}

func TestSlicesAndSectionsOfCombinations(t *testing.T) {
	next := random(5)
	for range 1000 {
		a, b := someRects(next), someRects(next)
		for _, c := range []struct {
			name     string
			combined []api.Rect
			periods  func(x, y []api.Period) []api.Period
		}{
			{"Union", region.Union(a, b), span.Union},
			{"Intersect", region.Intersect(a, b), span.Intersect},
			{"Subtract", region.Subtract(a, b), span.Subtract},
		} {
			for _, at := range someBounds() {
				if got, want := region.Slice(c.combined, at), c.periods(region.Slice(a, at), region.Slice(b, at)); !slices.Equal(got, want) {
					t.Fatal(c.name, a, b, at, got, want)
				}
				if got, want := region.Section(c.combined, at), c.periods(region.Section(a, at), region.Section(b, at)); !slices.Equal(got, want) {
					t.Fatal(c.name, a, b, at, got, want)
				}
			}
		}
	}
}

func TestAlgebra(t *testing.T) {
	next := random(6)
	for range 1000 {
		a, b, c := someRects(next), someRects(next), someRects(next)
		u, n := region.Union, region.Intersect
		for _, law := range []struct {
			name      string
			got, want []api.Rect
		}{
			{"commutative union", u(a, b), u(b, a)},
			{"commutative intersection", n(a, b), n(b, a)},
			{"associative union", u(u(a, b), c), u(a, u(b, c))},
			{"associative intersection", n(n(a, b), c), n(a, n(b, c))},
			{"distributive union", u(a, n(b, c)), n(u(a, b), u(a, c))},
			{"distributive intersection", n(a, u(b, c)), u(n(a, b), n(a, c))},
			{"parts", u(region.Subtract(a, b), n(a, b)), region.Of(a)},
		} {
			check(t, law.name, law.got, law.want, a, b, c)
		}
	}
}

func TestRectanglesOfARegionDoNotOverlap(t *testing.T) {
	next := random(7)
	for range 1000 {
		l := region.Of(someRects(next))
		for i := range l {
			for j := range i {
				if region.Overlaps(l[i], l[j]) {
					t.Fatal(l, l[i], l[j])
				}
			}
		}
	}
}
