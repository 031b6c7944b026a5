package testkit

import (
	"slices"

	"bitemporal/api"
	"bitemporal/coalesce"
	"bitemporal/value"
)

// Row returns a row of integers, texts, booleans, and nil for a null.
func Row(l ...any) []api.Value {
	var row []api.Value
	for _, x := range l {
		v := value.Null()
		switch x := x.(type) {
		case int:
			v = value.Int(x)
		case string:
			v = value.Text(x)
		case bool:
			v = value.Bool(x)
		}
		row = append(row, v)
	}
	return row
}

// Fact returns a fact with such a row.
func Fact(from, to int, row ...any) api.Fact {
	return api.Fact{Row: Row(row...), Valid: api.Period{From: from, To: to}}
}

// Numbers returns a relation with columns of integers.
func Numbers(columns int, l ...api.Fact) api.Relation {
	return api.Relation{Kinds: slices.Repeat([]int{api.KindInt}, columns), Facts: l}
}

// Bounds returns the numbers that the bounds of the periods of a maker are taken from, in ascending order.
func Bounds() []int {
	return []int{0, 1, 2, 3, 4, 5, 6, 7, 8, 1000, api.Forever - 1, api.Forever}
}

// Period returns a valid period.
func (m *Maker) Period() api.Period {
	l := Bounds()
	i := m.Below(len(l) - 1)
	return api.Period{From: l[i], To: l[i+1+m.Below(len(l)-1-i)]}
}

// AnyPeriod returns a period that is often not valid.
func (m *Maker) AnyPeriod() api.Period {
	l := append(Bounds(), -1<<63, -5, -1, api.Forever+1, 1<<63-1)
	return api.Period{From: l[m.Below(len(l))], To: l[m.Below(len(l))]}
}

// Relation returns a valid relation with up to most facts, many of them with the same rows, and with spare capacity.
func (m *Maker) Relation(kinds []int, most int) api.Relation {
	r := api.Relation{Kinds: append(slices.Clone(kinds), -7)[:len(kinds)]}
	rows := append(m.Rows(kinds, 3), make([]api.Value, len(kinds)))
	for range m.Below(most + 1) {
		row := append(slices.Clone(rows[m.Below(len(rows))]), api.Value{Kind: -7})
		r.Facts = append(r.Facts, api.Fact{Row: row[:len(kinds)], Valid: m.Period()})
	}
	r.Facts = append(r.Facts, api.Fact{Valid: m.AnyPeriod()})[:len(r.Facts)]
	return r
}

// Equivalent returns a relation with the same snapshots, some of whose facts are divided, in another order.
func (m *Maker) Equivalent(r api.Relation) api.Relation {
	other := api.Relation{Kinds: slices.Clone(r.Kinds)}
	for _, f := range r.Facts {
		f.Row = slices.Clone(f.Row)
		g := api.Fact{Row: slices.Clone(f.Row), Valid: f.Valid}
		if at := f.Valid.From + 1 + m.Below(4); at < f.Valid.To {
			f.Valid.To, g.Valid.From = at, at
			other.Facts = append(other.Facts, g)
		}
		other.Facts = slices.Insert(other.Facts, m.Below(len(other.Facts)+1), f)
	}
	return other
}

// AnyNumber returns a number that is often neither an index nor a width nor a kind.
func (m *Maker) AnyNumber() int {
	l := []int{-1 << 63, -api.Forever, -1, 0, 1, 2, 3, 5, 99, api.Forever, 1<<63 - 1}
	return l[m.Below(len(l))]
}

// AnyRelation returns a relation that is often not valid.
func (m *Maker) AnyRelation(most int) api.Relation {
	r := m.Relation(m.Kinds(3), most)
	for range m.Below(4) {
		f := api.Fact{Valid: m.AnyPeriod()}
		for range m.Below(4) {
			f.Row = append(f.Row, api.Value{Kind: m.AnyNumber(), Int: m.AnyNumber(), Text: "\x00"})
		}
		r.Facts = slices.Insert(r.Facts, m.Below(len(r.Facts)+1), f)
	}
	if m.Chance(2) {
		r.Kinds = []int{m.AnyNumber(), m.AnyNumber(), m.AnyNumber()}[:m.Below(4)]
	}
	return r
}

// Bag returns the snapshot of a relation at an instant.
func Bag(r api.Relation, t int) api.Bag {
	return api.Bag{Kinds: r.Kinds, Rows: coalesce.At(r.Facts, t)}
}

// Is reports whether a relation is in canonical form and has, at every instant, the kinds and the rows of a bag. Apart from its own bounds, the bags may change only at those that periods of a maker have, and at the numbers given.
func Is(r api.Relation, want func(t int) api.Bag, more ...int) bool {
	if !coalesce.Canonical(r.Facts) {
		return false
	}
	for _, t := range slices.Concat(Bounds(), coalesce.Points(r.Facts), more) {
		if t < 0 || t >= api.Forever {
			continue
		}
		if b := want(t); !slices.Equal(r.Kinds, b.Kinds) || !slices.EqualFunc(coalesce.At(r.Facts, t), b.Rows, slices.Equal) {
			return false
		}
	}
	return true
}

// Identical reports whether two lists of facts are the same in the same order.
func Identical(a, b []api.Fact) bool {
	return slices.EqualFunc(a, b, func(f, g api.Fact) bool { return f.Valid == g.Valid && slices.Equal(f.Row, g.Row) })
}

// Whole returns a copy of relations that shows what is in their spare capacity.
func Whole(l ...api.Relation) []api.Relation {
	var result []api.Relation
	for _, r := range l {
		c := api.Relation{Kinds: slices.Clone(r.Kinds[:cap(r.Kinds)])}
		for _, f := range r.Facts[:cap(r.Facts)] {
			c.Facts = append(c.Facts, api.Fact{Row: slices.Clone(f.Row[:cap(f.Row)]), Valid: f.Valid})
		}
		result = append(result, c, api.Relation{Kinds: []int{len(r.Kinds), len(r.Facts)}})
	}
	return result
}

// SharesMemory reports whether a list of r shares memory, with its spare capacity, with another one of r or one of others.
func SharesMemory(r api.Relation, others ...api.Relation) bool {
	known := memory{map[*int]bool{}, map[*api.Fact]bool{}, map[*api.Value]bool{}}
	for _, o := range others {
		known.add(o)
	}
	return known.add(r)
}

// memory knows the elements of lists.
type memory struct {
	kinds  map[*int]bool
	facts  map[*api.Fact]bool
	values map[*api.Value]bool
}

// add adds the lists of a relation, and reports whether an element of them was known.
func (m memory) add(r api.Relation) bool {
	isKnown := addElements(m.kinds, r.Kinds)
	isKnown = addElements(m.facts, r.Facts) || isKnown
	for _, f := range r.Facts {
		isKnown = addElements(m.values, f.Row) || isKnown
	}
	return isKnown
}

func addElements[E any](known map[*E]bool, l []E) bool {
	isKnown := false
	l = l[:cap(l)]
	for i := range l {
		isKnown = isKnown || known[&l[i]]
		known[&l[i]] = true
	}
	return isKnown
}
