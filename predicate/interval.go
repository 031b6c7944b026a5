package predicate

import (
	"bitemporal/api"
	"bitemporal/value"
)

// aboveTexts is greater than every text that a value can have.
const aboveTexts = "\x7f"

// bound is an end of an interval; a strict one is not a part of it.
type bound struct {
	value  api.Value
	strict bool
}

// interval is a set of values of one kind. A strict bound occurs only for texts, since every other value has a next one.
type interval struct {
	low, high  bound
	impossible bool // values of different kinds were demanded
}

// allOf returns all values of a kind other than KindNull.
func allOf(kind int) interval {
	switch kind {
	case api.KindInt:
		return integers(-api.MaxNumber, api.MaxNumber)
	case api.KindBool:
		return between(value.Bool(false), value.Bool(true))
	}
	return between(value.Text(""), api.Value{Kind: api.KindText, Text: aboveTexts})
}

// integers returns the integers from low to high.
func integers(low, high int) interval { return between(value.Int(low), value.Int(high)) }

func between(low, high api.Value) interval {
	return interval{low: bound{value: low}, high: bound{value: high}}
}

func (i interval) isEmpty() bool {
	c := value.Compare(i.low.value, i.high.value)
	return i.impossible || c > 0 || c == 0 && (i.low.strict || i.high.strict)
}

// narrowed returns the values of i that satisfy a condition.
func (i interval) narrowed(c api.Condition) interval {
	if c.Value.Kind != i.low.value.Kind {
		i.impossible = true
		return i
	}
	b := bound{value: c.Value}
	switch c.Op {
	case api.OpEq:
		return i.above(b).below(b)
	case api.OpGt:
		b = beyond(c.Value, 1)
		fallthrough
	case api.OpGe:
		return i.above(b)
	case api.OpLt:
		b = beyond(c.Value, -1)
	}
	return i.below(b)
}

// beyond returns the bound that excludes a value and what lies on one side of it: the next value in the direction of step, or for texts, which have none, a strict one.
func beyond(v api.Value, step int) bound {
	if v.Kind == api.KindText {
		return bound{value: v, strict: true}
	}
	v.Int += step
	return bound{value: v}
}

// above returns the part of i that is not below b.
func (i interval) above(b bound) interval {
	if c := value.Compare(b.value, i.low.value); c > 0 || c == 0 && b.strict {
		i.low = b
	}
	return i
}

// below returns the part of i that is not above b.
func (i interval) below(b bound) interval {
	if c := value.Compare(b.value, i.high.value); c < 0 || c == 0 && b.strict {
		i.high = b
	}
	return i
}
