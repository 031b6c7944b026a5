// Package widesum adds integers whose sum may be too great for an int, for the layers that aggregate.
package widesum

import (
	"bitemporal/api"
	"bitemporal/value"
)

const (
	bits = 32
	mask = 1<<bits - 1
)

// Sum is the sum of some integers. Their upper and their lower bits are added separately, as only that cannot overflow.
type Sum struct{ upper, lower int }

// Add adds a number.
func (s *Sum) Add(n int) {
	s.upper += n >> bits
	s.lower += n & mask
}

// Remove takes away a number that has been added.
func (s *Sum) Remove(n int) {
	s.upper -= n >> bits
	s.lower -= n & mask
}

// Value returns the sum, or a null if it is not between -MaxNumber and MaxNumber.
func (s *Sum) Value() api.Value {
	upper, lower := s.upper+s.lower>>bits, s.lower&mask
	if max(upper, -upper) > api.MaxNumber>>bits {
		return value.Null()
	}
	return value.Int(upper<<bits + lower)
}
