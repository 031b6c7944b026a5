package aggregate

import (
	"container/heap"

	"bitemporal/api"
	"bitemporal/value"
	"bitemporal/widesum"
)

// A running aggregate has the result of an aggregate for the facts that are valid at an instant. The facts and the instants come in ascending order, so that no result needs all facts again.
type running interface {
	begin(v api.Value, to int) // a fact becomes valid until an instant
	end(v api.Value)           // a fact is not valid any more
	result(at int) api.Value
}

// started returns the running aggregates of an empty group.
func started(l []api.Agg) []running {
	result := make([]running, len(l))
	for i, a := range l {
		switch a.Op {
		case api.AggCount:
			result[i] = &count{}
		case api.AggSum:
			result[i] = &sum{}
		case api.AggMin:
			result[i] = &extreme{sign: 1}
		default:
			result[i] = &extreme{sign: -1}
		}
	}
	return result
}

// advance tells a running aggregate which facts have begun and ended, apart from those that it does not count.
func advance(r running, a api.Agg, begun, ended []api.Fact) {
	for _, f := range begun {
		if v, counts := argument(a, f.Row); counts {
			r.begin(v, f.Valid.To)
		}
	}
	for _, f := range ended {
		if v, counts := argument(a, f.Row); counts {
			r.end(v)
		}
	}
}

// argument returns the value of a row to which an aggregate applies, and whether the row counts.
func argument(a api.Agg, row []api.Value) (api.Value, bool) {
	allRows := api.Agg{Op: api.AggCount, Arg: -1}
	switch {
	case a == allRows:
		return api.Value{}, true
	case a.Arg < 0 || a.Arg >= len(row):
		return api.Value{}, false
	}
	return row[a.Arg], row[a.Arg].Kind != api.KindNull
}

// count is AggCount.
type count struct{ n int }

func (c *count) begin(api.Value, int) { c.n++ }

func (c *count) end(api.Value) { c.n-- }

func (c *count) result(int) api.Value { return value.Int(c.n) }

// sum is AggSum.
type sum struct {
	n     int
	total widesum.Sum
}

func (s *sum) begin(v api.Value, _ int) {
	s.n++
	s.total.Add(v.Int)
}

func (s *sum) end(v api.Value) {
	s.n--
	s.total.Remove(v.Int)
}

func (s *sum) result(int) api.Value {
	if s.n == 0 {
		return value.Null()
	}
	return s.total.Value()
}

// candidate is a value that counts until an instant.
type candidate struct {
	v  api.Value
	to int
}

// extreme is AggMin, or AggMax if the sign is negative. The candidates are a heap whose first one is the result; one that counts no more is removed when it is the first.
type extreme struct {
	sign       int
	candidates []candidate
}

func (e *extreme) begin(v api.Value, to int) { heap.Push(e, candidate{v, to}) }

func (e *extreme) end(api.Value) {}

func (e *extreme) result(at int) api.Value {
	for len(e.candidates) > 0 && e.candidates[0].to <= at {
		heap.Pop(e)
	}
	if len(e.candidates) == 0 {
		return value.Null()
	}
	return e.candidates[0].v
}

func (e *extreme) Len() int { return len(e.candidates) }

func (e *extreme) Less(i, j int) bool {
	return value.Compare(e.candidates[i].v, e.candidates[j].v)*e.sign < 0
}

func (e *extreme) Swap(i, j int) {
	e.candidates[i], e.candidates[j] = e.candidates[j], e.candidates[i]
}

func (e *extreme) Push(c any) { e.candidates = append(e.candidates, c.(candidate)) }

func (e *extreme) Pop() any {
	last := len(e.candidates) - 1
	c := e.candidates[last]
	e.candidates = e.candidates[:last]
	return c
}
