package testkit

import (
	"slices"

	"bitemporal/api"
)

// A Test is the part of *testing.T that this package uses, so that it need not import package testing.
type Test interface {
	Helper()
	Errorf(format string, args ...any)
	Fatalf(format string, args ...any)
}

// Want reports an error unless a relation has these kinds and, in this order, these facts.
func Want(t Test, name string, got api.Relation, kinds []int, want []api.Fact) {
	t.Helper()
	if !slices.Equal(got.Kinds, kinds) || !Identical(got.Facts, want) {
		t.Errorf("%s: %v, want %v, %v", name, got, kinds, want)
	}
}

// Same ends a test unless two relations have the same kinds and, in the same order, the same facts.
func Same(t Test, name string, a, b api.Relation) {
	t.Helper()
	if !slices.Equal(a.Kinds, b.Kinds) || !Identical(a.Facts, b.Facts) {
		t.Fatalf("%s: %v, %v", name, a, b)
	}
}
