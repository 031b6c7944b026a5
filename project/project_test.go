package project_test

import (
	"math"
	"slices"
	"testing"

	"bitemporal/api"
	"bitemporal/project"
	"bitemporal/testkit"
	"bitemporal/value"
)

const forever = api.Forever

func fact(from, to int, row ...any) api.Fact { return testkit.Fact(from, to, row...) }

func facts(l ...api.Fact) []api.Fact { return l }

// numbers returns a relation with one column of integers.
func numbers(l ...api.Fact) api.Relation { return testkit.Numbers(1, l...) }

func number(n int) api.Expr { return testkit.Constant(value.Int(n)) }

// column0 returns an operation on column 0 and a number.
func column0(op, n int) api.Expr { return testkit.Operation(op, testkit.Column(0), number(n)) }

func TestFilterAndProject(t *testing.T) {
	kinds := []int{api.KindInt}
	r := numbers(fact(4, forever, 2), fact(0, 5, 1), fact(2, 4, 2))
	null := api.Fact{Row: []api.Value{{}}, Valid: api.Period{From: 3, To: 6}}
	withNull := numbers(null, fact(2, 5, 7), fact(3, 4, 7))
	isNull := testkit.Operation(api.OpIsNull, testkit.Column(0))
	testkit.Want(t, "Filter", project.Filter(r, column0(api.OpGt, 1)), kinds, facts(fact(2, forever, 2)))
	testkit.Want(t, "Filter that keeps both rows", project.Filter(r, column0(api.OpGt, 0)), kinds, facts(fact(0, 5, 1), fact(2, forever, 2)))
	testkit.Want(t, "Filter that keeps nothing", project.Filter(r, column0(api.OpGt, 2)), kinds, nil)
	testkit.Want(t, "Filter of nothing", project.Filter(numbers(), column0(api.OpGt, 2)), kinds, nil)
	testkit.Want(t, "Filter with duplicates", project.Filter(withNull, column0(api.OpEq, 7)), kinds, facts(fact(2, 5, 7), fact(3, 4, 7)))
	testkit.Want(t, "Filter by what is unknown for a null", project.Filter(withNull, column0(api.OpNe, 7)), kinds, nil)
	testkit.Want(t, "Filter that wants a null", project.Filter(withNull, isNull), kinds, facts(null))
	testkit.Want(t, "Filter by TRUE", project.Filter(r, testkit.Constant(value.Bool(true))), kinds, facts(fact(0, 5, 1), fact(2, forever, 2)))
	testkit.Want(t, "Filter by FALSE", project.Filter(r, testkit.Constant(value.Bool(false))), kinds, nil)
	testkit.Want(t, "Filter by NULL", project.Filter(r, testkit.Constant(value.Null())), kinds, nil)

	testkit.Want(t, "Project", project.Project(r, []api.Expr{column0(api.OpMod, 1)}), kinds, facts(fact(0, forever, 0), fact(2, 5, 0)))
	testkit.Want(t, "Project to a column", project.Project(r, []api.Expr{testkit.Column(0)}), kinds, facts(fact(0, 5, 1), fact(2, forever, 2)))
	testkit.Want(t, "Project to several columns", project.Project(r, []api.Expr{number(8), column0(api.OpMul, 3), testkit.Column(0)}), []int{api.KindInt, api.KindInt, api.KindInt}, facts(fact(0, 5, 8, 3, 1), fact(2, forever, 8, 6, 2)))
	testkit.Want(t, "Project to what orders the rows in another way", project.Project(r, []api.Expr{testkit.Operation(api.OpNeg, testkit.Column(0))}), kinds, facts(fact(2, forever, -2), fact(0, 5, -1)))
	testkit.Want(t, "Project to another kind", project.Project(withNull, []api.Expr{isNull}), []int{api.KindBool}, []api.Fact{
		{Row: []api.Value{value.Bool(false)}, Valid: api.Period{From: 2, To: 5}},
		{Row: []api.Value{value.Bool(false)}, Valid: api.Period{From: 3, To: 4}},
		{Row: []api.Value{value.Bool(true)}, Valid: api.Period{From: 3, To: 6}},
	})
	testkit.Want(t, "Project to nulls", project.Project(r, []api.Expr{column0(api.OpDiv, 0)}), kinds, []api.Fact{
		{Row: []api.Value{{}}, Valid: api.Period{From: 0, To: forever}}, {Row: []api.Value{{}}, Valid: api.Period{From: 2, To: 5}},
	})
	testkit.Want(t, "Project of nothing", project.Project(numbers(), []api.Expr{isNull, testkit.Column(0)}), []int{api.KindBool, api.KindInt}, nil)
}

func TestLonger(t *testing.T) {
	// Neither a fact that another one continues nor the facts of a list that are in no canonical form count by themselves.
	r := numbers(fact(4, forever, 2), fact(0, 3, 1), fact(2, 4, 2), fact(3, 5, 1), fact(2, 3, 1), fact(8, 10, 3), fact(10, 11, 3), fact(9, 12, 3))
	one, two, three := facts(fact(0, 5, 1), fact(2, 3, 1)), facts(fact(2, forever, 2)), facts(fact(8, 12, 3), fact(9, 11, 3))
	all := slices.Concat(one, two, three)
	kinds := []int{api.KindInt}
	testkit.Want(t, "the least number", project.Longer(r, math.MinInt), kinds, all)
	testkit.Want(t, "-1", project.Longer(r, -1), kinds, all)
	testkit.Want(t, "0", project.Longer(r, 0), kinds, all)
	testkit.Want(t, "1", project.Longer(r, 1), kinds, all)
	testkit.Want(t, "2", project.Longer(r, 2), kinds, slices.Concat(one[:1], two, three))
	testkit.Want(t, "3", project.Longer(r, 3), kinds, slices.Concat(one[:1], two, three[:1]))
	testkit.Want(t, "4", project.Longer(r, 4), kinds, slices.Concat(one[:1], two, three[:1]))
	testkit.Want(t, "5", project.Longer(r, 5), kinds, slices.Concat(one[:1], two))
	testkit.Want(t, "6", project.Longer(r, 6), kinds, two)
	testkit.Want(t, "all from 2 on", project.Longer(r, forever-2), kinds, two)
	testkit.Want(t, "all from 1 on", project.Longer(r, forever-1), kinds, nil)
	testkit.Want(t, "the greatest number", project.Longer(r, math.MaxInt), kinds, nil)
	testkit.Want(t, "all of time", project.Longer(numbers(fact(0, 7, 1), fact(7, forever, 1)), forever), kinds, facts(fact(0, forever, 1)))
	testkit.Want(t, "more than all of time", project.Longer(numbers(fact(0, forever, 1)), forever+1), kinds, nil)
	testkit.Want(t, "nothing", project.Longer(numbers(), 0), kinds, nil)
}

func TestTouching(t *testing.T) {
	kinds := []int{api.KindInt}
	r := numbers(fact(0, 3, 1), fact(3, 5, 1), fact(2, 4, 2), fact(4, forever, 2), fact(1, 3, 2), fact(3, 6, 3))
	touching := func(rel, from, to int) api.Relation {
		return project.Touching(r, rel, api.Period{From: from, To: to})
	}
	testkit.Want(t, "Contains", touching(api.Contains, 1, 3), kinds, facts(fact(0, 5, 1)))
	testkit.Want(t, "Overlaps", touching(api.Overlaps, 2, 8), kinds, facts(fact(0, 5, 1)))
	testkit.Want(t, "OverlappedBy", touching(api.OverlappedBy, 2, 5), kinds, facts(fact(3, 6, 3)))
	testkit.Want(t, "Equals", touching(api.Equals, 0, 5), kinds, facts(fact(0, 5, 1)))
	testkit.Want(t, "Equals to a part", touching(api.Equals, 0, 3), kinds, nil)
	testkit.Want(t, "StartedBy", touching(api.StartedBy, 3, 4), kinds, facts(fact(3, 6, 3)))
	testkit.Want(t, "Finishes", touching(api.Finishes, 0, forever), kinds, facts(fact(1, forever, 2)))
	testkit.Want(t, "During", touching(api.During, 0, 7), kinds, facts(fact(2, 3, 2), fact(3, 6, 3)))
	testkit.Want(t, "Before", touching(api.Before, 7, 8), kinds, facts(fact(0, 5, 1), fact(2, 3, 2), fact(3, 6, 3)))
	testkit.Want(t, "Meets", touching(api.Meets, 3, 5), kinds, facts(fact(2, 3, 2)))
	testkit.Want(t, "MetBy", touching(api.MetBy, 0, 1), kinds, facts(fact(1, forever, 2)))
	testkit.Want(t, "After", touching(api.After, 0, 1), kinds, facts(fact(2, 3, 2), fact(3, 6, 3)))
	testkit.Want(t, "an empty period", touching(api.Contains, 3, 3), kinds, nil)
	testkit.Want(t, "a period that is too long", touching(api.Before, 7, forever+1), kinds, nil)
	testkit.Want(t, "a period that begins too early", touching(api.After, -1, 1), kinds, nil)
	testkit.Want(t, "too small a number", touching(-1, 1, 3), kinds, nil)
	testkit.Want(t, "too great a number", touching(api.Relations, 1, 3), kinds, nil)
	testkit.Want(t, "nothing", project.Touching(numbers(), api.Contains, api.Period{From: 1, To: 3}), kinds, nil)
}

func TestShift(t *testing.T) {
	kinds := []int{api.KindInt}
	r := numbers(fact(4, forever, 2), fact(0, 5, 1), fact(2, 4, 2))
	late := numbers(fact(forever-5, forever-2, 1), fact(forever-1, forever, 2))
	nested := numbers(fact(1, 8, 1), fact(3, 9, 1), fact(2, forever, 1))
	testkit.Want(t, "0", project.Shift(r, 0), kinds, facts(fact(0, 5, 1), fact(2, forever, 2)))
	testkit.Want(t, "-3", project.Shift(r, -3), kinds, facts(fact(0, 2, 1), fact(0, forever, 2)))
	testkit.Want(t, "-4", project.Shift(r, -4), kinds, facts(fact(0, 1, 1), fact(0, forever, 2)))
	testkit.Want(t, "-5", project.Shift(r, -5), kinds, facts(fact(0, forever, 2)))
	testkit.Want(t, "2", project.Shift(r, 2), kinds, facts(fact(2, 7, 1), fact(4, forever, 2)))
	testkit.Want(t, "almost Forever", project.Shift(r, forever-3), kinds, facts(fact(forever-3, forever, 1), fact(forever-1, forever, 2)))
	testkit.Want(t, "one less than Forever", project.Shift(r, forever-1), kinds, facts(fact(forever-1, forever, 1)))
	testkit.Want(t, "Forever", project.Shift(r, forever), kinds, nil)
	testkit.Want(t, "more than Forever", project.Shift(r, forever+1), kinds, nil)
	testkit.Want(t, "the greatest number", project.Shift(r, math.MaxInt), kinds, nil)
	testkit.Want(t, "-Forever", project.Shift(r, -forever), kinds, facts(fact(0, forever, 2)))
	testkit.Want(t, "less than -Forever", project.Shift(r, -forever-1), kinds, facts(fact(0, forever, 2)))
	testkit.Want(t, "the least number", project.Shift(r, math.MinInt), kinds, facts(fact(0, forever, 2)))
	testkit.Want(t, "late facts by 1", project.Shift(late, 1), kinds, facts(fact(forever-4, forever-1, 1)))
	testkit.Want(t, "late facts by 2", project.Shift(late, 2), kinds, facts(fact(forever-3, forever, 1)))
	testkit.Want(t, "late facts by 3", project.Shift(late, 3), kinds, facts(fact(forever-2, forever, 1)))
	testkit.Want(t, "late facts by -1", project.Shift(late, -1), kinds, facts(fact(forever-6, forever-3, 1), fact(forever-2, forever, 2)))
	testkit.Want(t, "late facts by almost -Forever", project.Shift(late, 4-forever), kinds, facts(fact(0, 2, 1), fact(3, forever, 2)))
	testkit.Want(t, "nested facts", project.Shift(nested, -3), kinds, facts(fact(0, 5, 1), fact(0, 6, 1), fact(0, forever, 1)))
	testkit.Want(t, "nothing", project.Shift(numbers(), 3), kinds, nil)
}
