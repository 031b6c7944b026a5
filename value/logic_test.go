package value_test

import (
	"math"
	"testing"

	"bitemporal/api"
	"bitemporal/value"
)

// truths are the truth values, and other numbers, which count as Unknown.
func truths() []int {
	return []int{api.False, api.Unknown, api.True, -1, 3, 17, math.MinInt, math.MaxInt}
}

// known returns the truth value for which a number counts.
func known(a int) int {
	if a == api.False || a == api.True {
		return a
	}
	return api.Unknown
}

func TestNot(t *testing.T) {
	for _, a := range truths() {
		want := [3]int{api.False: api.True, api.Unknown: api.Unknown, api.True: api.False}[known(a)]
		if got := value.Not(a); got != want {
			t.Error(a, got)
		}
	}
}

func TestAndOr(t *testing.T) {
	const f, u, w = api.False, api.Unknown, api.True
	and := [3][3]int{f: {f: f, u: f, w: f}, u: {f: f, u: u, w: u}, w: {f: f, u: u, w: w}}
	or := [3][3]int{f: {f: f, u: u, w: w}, u: {f: u, u: u, w: w}, w: {f: w, u: w, w: w}}
	for _, a := range truths() {
		for _, b := range truths() {
			if got := value.And(a, b); got != and[known(a)][known(b)] {
				t.Error("And", a, b, got)
			}
			if got := value.Or(a, b); got != or[known(a)][known(b)] {
				t.Error("Or", a, b, got)
			}
		}
	}
}

func TestAlgebra(t *testing.T) {
	for _, a := range truths() {
		for _, b := range truths() {
			if value.And(a, b) != value.And(b, a) || value.Or(a, b) != value.Or(b, a) {
				t.Error("not commutative", a, b)
			}
			if value.Not(value.And(a, b)) != value.Or(value.Not(a), value.Not(b)) || value.Not(value.Or(a, b)) != value.And(value.Not(a), value.Not(b)) {
				t.Error("negation", a, b)
			}
			for _, c := range truths() {
				if value.And(value.And(a, b), c) != value.And(a, value.And(b, c)) || value.Or(value.Or(a, b), c) != value.Or(a, value.Or(b, c)) {
					t.Error("not associative", a, b, c)
				}
			}
		}
	}
}

func TestTruth(t *testing.T) {
	for _, v := range allValues() {
		want := api.Unknown
		switch v {
		case raw(api.KindBool, 0, ""):
			want = api.False
		case raw(api.KindBool, 1, ""):
			want = api.True
		}
		if got := value.Truth(v); got != want {
			t.Error(v, got)
		}
	}
}

func TestOf(t *testing.T) {
	for _, a := range truths() {
		want := [3]api.Value{api.False: raw(api.KindBool, 0, ""), api.Unknown: raw(api.KindNull, 0, ""), api.True: raw(api.KindBool, 1, "")}[known(a)]
		got := value.Of(a)
		if got != want || value.Truth(got) != known(a) {
			t.Error(a, got)
		}
	}
}
