package coalesce_test

import (
	"reflect"
	"slices"

	"bitemporal/api"
	"bitemporal/tuple"
)

// random returns numbers below n that depend only on the seed.
func random(seed uint64) func(n int) int {
	return func(n int) int {
		seed = seed*6364136223846793005 + 1442695040888963407
		return int(seed >> 33 % uint64(n))
	}
}

// bounds are the numbers that the bounds of random periods are taken from; those before 0 and after Forever make no valid period.
func bounds() []int {
	return []int{-1 << 63, -1, 0, 1, 2, 3, 4, 5, 6, 7, 1000, api.Forever - 1, api.Forever, api.Forever + 1, 1<<63 - 1}
}

// instants are instants between which no list of facts with such bounds changes, and some numbers that are none.
func instants() []int { return append(bounds(), 500, 100000) }

// someRows are rows with few differences.
func someRows() [][]api.Value {
	return [][]api.Value{
		{{Kind: api.KindInt, Int: 1}}, {{Kind: api.KindInt, Int: 2}}, {{Kind: api.KindInt, Int: 1}, {}}, nil, {{}},
		{{Kind: api.KindText, Text: "1"}}, {{Kind: 9, Int: -7, Text: "\n"}}, {{Kind: 9, Int: -7}}, {{Kind: api.KindBool, Int: 2}},
	}
}

// somePeriod returns a period, which is mostly valid.
func somePeriod(next func(n int) int) api.Period {
	b := bounds()
	if next(8) > 0 {
		b = b[2:13]
	}
	p := api.Period{From: b[next(len(b))], To: b[next(len(b))]}
	if p.From > p.To && next(8) > 0 {
		p.From, p.To = p.To, p.From
	}
	return p
}

// someFacts returns up to most facts with one of n rows, each with some spare capacity.
func someFacts(next func(n int) int, most, n int) []api.Fact {
	var l []api.Fact
	rows := someRows()
	for range next(most + 1) {
		row := append(slices.Clone(rows[next(n)]), api.Value{Kind: 77})
		l = append(l, api.Fact{Row: row[:len(row)-1], Valid: somePeriod(next)})
	}
	return l
}

// isDuring reports whether a period is valid and an instant lies in it.
func isDuring(p api.Period, t int) bool {
	return p.From >= 0 && p.To <= api.Forever && p.From <= t && t < p.To
}

// countOf returns how often a row is valid at an instant.
func countOf(l []api.Fact, row []api.Value, t int) int {
	n := 0
	for _, f := range l {
		if isDuring(f.Valid, t) && slices.Equal(f.Row, row) {
			n++
		}
	}
	return n
}

// rowsOf returns the different rows of facts in ascending order.
func rowsOf(l ...api.Fact) [][]api.Value {
	var rows [][]api.Value
	for _, f := range l {
		rows = append(rows, f.Row)
	}
	return tuple.Distinct(rows)
}

// maximal returns the maximal periods at whose instants a condition holds that changes only at the bounds.
func maximal(condition func(t int) bool) []api.Period {
	var l []api.Period
	from := -1
	for _, t := range bounds() {
		holds := t < api.Forever && condition(t)
		if holds && from < 0 {
			from = t
		}
		if !holds && from >= 0 {
			l = append(l, api.Period{From: from, To: t})
			from = -1
		}
	}
	return l
}

// canonical returns the canonical form of facts, counted up to most: a row has, for each number from 1 on, the maximal periods at which its count is at least that number.
func canonical(l []api.Fact, most int) []api.Fact {
	var result []api.Fact
	for _, row := range rowsOf(l...) {
		var periods []api.Period
		for n := 1; n <= min(most, len(l)); n++ {
			periods = append(periods, maximal(func(t int) bool { return countOf(l, row, t) >= n })...)
		}
		slices.SortFunc(periods, func(p, q api.Period) int {
			if p.From != q.From {
				return p.From - q.From
			}
			return p.To - q.To
		})
		for _, p := range periods {
			result = append(result, api.Fact{Row: row, Valid: p})
		}
	}
	return result
}

// snapshot returns the rows that are valid at an instant, in ascending order.
func snapshot(l []api.Fact, t int) [][]api.Value {
	var rows [][]api.Value
	for _, row := range rowsOf(l...) {
		for range countOf(l, row, t) {
			rows = append(rows, row)
		}
	}
	return rows
}

func equalRows(a, b [][]api.Value) bool {
	return slices.EqualFunc(a, b, func(x, y []api.Value) bool { return slices.Equal(x, y) })
}

func identical(a, b []api.Fact) bool {
	return slices.EqualFunc(a, b, func(f, g api.Fact) bool { return f.Valid == g.Valid && slices.Equal(f.Row, g.Row) })
}

// equivalent reports whether the snapshots of two lists are the same at all instants.
func equivalent(a, b []api.Fact) bool {
	return !slices.ContainsFunc(instants(), func(t int) bool { return !equalRows(snapshot(a, t), snapshot(b, t)) })
}

// sharesMemory reports whether a list of a shares memory, with its spare capacity, with another one of a or one of b.
func sharesMemory(a any, b ...any) bool {
	type area struct {
		from, to uintptr
		mine     bool
	}
	var l []area
	var add func(v reflect.Value, mine bool)
	add = func(v reflect.Value, mine bool) {
		switch v.Kind() {
		case reflect.Struct:
			for i := range v.NumField() {
				add(v.Field(i), mine)
			}
		case reflect.Slice:
			if v.Cap() > 0 {
				l = append(l, area{v.Pointer(), v.Pointer() + uintptr(v.Cap())*v.Type().Elem().Size(), mine})
			}
			for i := range v.Len() {
				add(v.Index(i), mine)
			}
		}
	}
	add(reflect.ValueOf(a), true)
	for _, v := range b {
		add(reflect.ValueOf(v), false)
	}
	slices.SortFunc(l, func(a, b area) int {
		if a.from < b.from {
			return -1
		}
		return 1
	})
	for i := 1; i < len(l); i++ {
		if l[i].from < l[i-1].to && (l[i].mine || l[i-1].mine) {
			return true
		}
	}
	return false
}
