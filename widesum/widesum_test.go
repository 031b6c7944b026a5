package widesum_test

import (
	"math"
	"math/big"
	"testing"

	"bitemporal/api"
	"bitemporal/value"
	"bitemporal/widesum"
)

const most = api.MaxNumber

func TestValue(t *testing.T) {
	for i, x := range []struct {
		l    []int
		want api.Value
	}{
		{nil, value.Int(0)},
		{[]int{0}, value.Int(0)},
		{[]int{-1}, value.Int(-1)},
		{[]int{most}, value.Int(most)},
		{[]int{-most}, value.Int(-most)},
		{[]int{most, 1}, api.Value{}},
		{[]int{-most, -1}, api.Value{}},
		{[]int{most, 1, -1}, value.Int(most)},
		{[]int{-most, most}, value.Int(0)},
		{[]int{1<<32 - 1, 1<<32 - 1, 2}, value.Int(1 << 33)},
		{[]int{-1 << 32, 1<<32 + 5}, value.Int(5)},
		{[]int{math.MaxInt, math.MaxInt}, api.Value{}},
		{[]int{math.MaxInt, math.MaxInt, 2, math.MinInt, math.MinInt}, value.Int(0)},
		{[]int{math.MinInt, math.MinInt}, api.Value{}},
	} {
		var s widesum.Sum
		for _, n := range x.l {
			s.Add(n)
		}
		if got := s.Value(); got != x.want {
			t.Errorf("case %d: %v, want %v", i, got, x.want)
		}
		for _, n := range x.l {
			s.Remove(n)
		}
		if got := s.Value(); got != value.Int(0) {
			t.Errorf("case %d: %v is left", i, got)
		}
	}
}

// TestManyNumbers adds and removes numbers whose sum is often about MaxNumber, and sometimes far beyond.
func TestManyNumbers(t *testing.T) {
	var s widesum.Sum
	want := new(big.Int)
	seed, seen := uint64(1), map[bool]int{}
	var added []int
	for range 100000 {
		seed = seed*6364136223846793005 + 1442695040888963407
		n := int(seed) >> (8 + seed>>40%16)
		if len(added) > 2 || len(added) > 0 && seed>>50%2 == 0 {
			last := added[len(added)-1]
			added = added[:len(added)-1]
			s.Remove(last)
			want.Sub(want, big.NewInt(int64(last)))
		} else {
			added = append(added, n)
			s.Add(n)
			want.Add(want, big.NewInt(int64(n)))
		}
		inRange := new(big.Int).Abs(want).Cmp(big.NewInt(most)) <= 0
		seen[inRange]++
		if got := s.Value(); inRange && got != value.Int(int(want.Int64())) || !inRange && got != (api.Value{}) {
			t.Fatal(got, want)
		}
	}
	if seen[true] < 10000 || seen[false] < 10000 {
		t.Error(seen)
	}
}
