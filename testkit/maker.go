// Package testkit makes rows, expressions, plans and relations for the tests of other packages, and compares relations. It is no layer of the program.
package testkit

import "bitemporal/api"

// A Maker makes values that depend only on its seed and on what it has made before.
type Maker struct{ seed uint64 }

// New returns a maker.
func New(seed uint64) *Maker { return &Maker{seed} }

// Below returns a number from 0 to n - 1.
func (m *Maker) Below(n int) int {
	m.seed = m.seed*6364136223846793005 + 1442695040888963407
	return int(m.seed >> 33 % uint64(n))
}

// Chance is true once in n times.
func (m *Maker) Chance(n int) bool { return m.Below(n) == 0 }

// Kind returns a kind of a column.
func (m *Maker) Kind() int { return api.KindInt + m.Below(3) }

// Kinds returns up to most kinds of columns, at least one.
func (m *Maker) Kinds(most int) []int {
	l := make([]int, 1+m.Below(most))
	for i := range l {
		l[i] = m.Kind()
	}
	return l
}

// Value returns one of a few values of a kind, or a null.
func (m *Maker) Value(kind int) api.Value {
	switch {
	case m.Chance(5):
		return api.Value{}
	case kind == api.KindInt && m.Chance(8):
		return api.Value{Kind: kind, Int: []int{api.MaxNumber, -api.MaxNumber, api.MaxNumber - 1}[m.Below(3)]}
	case kind == api.KindInt:
		return api.Value{Kind: kind, Int: m.Below(3) - 1}
	case kind == api.KindText:
		return api.Value{Kind: kind, Text: []string{"", "x", "y"}[m.Below(3)]}
	}
	return api.Value{Kind: kind, Int: m.Below(2)}
}

// Rows returns up to most rows that fit kinds, some with spare capacity.
func (m *Maker) Rows(kinds []int, most int) [][]api.Value {
	var l [][]api.Value
	for range m.Below(most + 1) {
		row := make([]api.Value, len(kinds), len(kinds)+m.Below(2))
		for i, k := range kinds {
			row[i] = m.Value(k)
		}
		l = append(l, row)
	}
	return l
}
