package sequenced

import (
	"slices"

	"bitemporal/aggregate"
	"bitemporal/api"
	"bitemporal/rowkey"
	"bitemporal/setop"
)

// inParts returns the results of an operation for parts of a relation with at most n facts, together.
func inParts(r api.Relation, n int, operation func(part api.Relation) api.Relation) api.Relation {
	if len(r.Facts) <= n {
		return operation(r)
	}
	var results []api.Relation
	for l := range slices.Chunk(r.Facts, n) {
		results = append(results, operation(api.Relation{Kinds: r.Kinds, Facts: l}))
	}
	return together(results...)
}

// against returns the results of an operation for parts of a with at most n facts and what the parts before leave of b, together.
func against(a, b api.Relation, n int, operation func(part, left api.Relation) api.Relation) api.Relation {
	done := 0
	return inParts(a, n, func(part api.Relation) api.Relation {
		left := b
		if done > 0 {
			left = setop.Except(b, api.Relation{Kinds: a.Kinds, Facts: a.Facts[:done]})
		}
		done += len(part.Facts)
		return operation(part, left)
	})
}

// together returns the facts of relations with the same kinds, of which there is at least one.
func together(l ...api.Relation) api.Relation {
	result := api.Relation{Kinds: l[0].Kinds}
	for _, r := range l {
		result.Facts = append(result.Facts, r.Facts...)
	}
	return result
}

// multiplicity returns a number, at least 1, that no row of facts exceeds with the number of times that it is valid at once. It is often, but not always, the least one.
func multiplicity(l []api.Fact) int {
	most := 0
	numbers := map[string]int{}
	for _, f := range l {
		key := rowkey.Of(f.Row)
		numbers[key]++
		most = max(most, numbers[key])
	}
	peak, _ := aggregate.Peak(aggregate.Count(l), always())
	return max(min(most, peak), 1)
}
