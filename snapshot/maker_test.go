package snapshot_test

import (
	"reflect"
	"slices"

	"bitemporal/api"
	"bitemporal/testkit"
)

func integer(n int) api.Value { return api.Value{Kind: api.KindInt, Int: n} }

func text(s string) api.Value { return api.Value{Kind: api.KindText, Text: s} }

func truth(n int) api.Value { return api.Value{Kind: api.KindBool, Int: n} }

func constant(v api.Value) api.Expr { return testkit.Constant(v) }

func column(i int) api.Expr { return testkit.Column(i) }

func operation(op int, args ...api.Expr) api.Expr { return testkit.Operation(op, args...) }

// A maker makes random bags and plans.
type maker struct{ testkit.Planner }

func newMaker(seed uint64) *maker {
	return &maker{testkit.Planner{Maker: testkit.New(seed)}}
}

// bags returns bags with the kinds of m.
func (m *maker) bags(most int) []api.Bag {
	var l []api.Bag
	for _, kinds := range m.In {
		l = append(l, api.Bag{Kinds: slices.Clone(kinds), Rows: m.Rows(kinds, most)})
	}
	return l
}

// rowsIn returns how many rows bags have.
func rowsIn(l []api.Bag) []int {
	var numbers []int
	for _, b := range l {
		numbers = append(numbers, len(b.Rows))
	}
	return numbers
}

// fields calls f with each number, string, flag and list within v, also with those in the spare capacity of lists.
func fields(v reflect.Value, f func(reflect.Value)) {
	switch v.Kind() {
	case reflect.Struct:
		for i := range v.NumField() {
			fields(v.Field(i), f)
		}
	case reflect.Slice:
		f(v)
		whole := v.Slice(0, v.Cap())
		for i := range whole.Len() {
			fields(whole.Index(i), f)
		}
	default:
		f(v)
	}
}

// image returns the lengths of all lists and all numbers and strings within v.
func image(l ...any) []any {
	var all []any
	for _, v := range l {
		fields(reflect.ValueOf(v), func(v reflect.Value) {
			if v.Kind() == reflect.Slice {
				all = append(all, v.Len())
			} else {
				all = append(all, v.Interface())
			}
		})
	}
	return all
}

// sharesMemory reports whether a list of a shares memory, with its spare capacity, with another one of a or one of b.
func sharesMemory(a any, b ...any) bool {
	type area struct {
		from, to uintptr
		mine     bool
	}
	var l []area
	add := func(v any, mine bool) {
		fields(reflect.ValueOf(v), func(v reflect.Value) {
			if v.Kind() == reflect.Slice && v.Cap() > 0 {
				l = append(l, area{v.Pointer(), v.Pointer() + uintptr(v.Cap())*v.Type().Elem().Size(), mine})
			}
		})
	}
	add(a, true)
	for _, v := range b {
		add(v, false)
	}
	slices.SortFunc(l, func(a, b area) int {
		if a.from < b.from {
			return -1
		}
		return 1
	})
	for i := 1; i < len(l); i++ {
		if l[i].from < l[i-1].to && (l[i].mine || l[i-1].mine) {
			return true
		}
	}
	return false
}
