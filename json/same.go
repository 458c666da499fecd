package json

import (
	"slices"
	"strings"

	"glebe/api"
)

// pair is two values that must be the same, for those that they are in to be.
type pair struct{ a, b *api.Json }

// Same holds each pair that it comes upon against each other once alone: so it ends, even of values made by hand that are in themselves, or in each other time and again.
func Same(a, b api.Json) bool {
	open := []pair{{&a, &b}}
	met := map[pair]struct{}{}
	for len(open) > 0 {
		last := open[len(open)-1]
		open = open[:len(open)-1]
		if _, again := met[last]; again {
			continue
		}
		met[last] = struct{}{}
		inner, ok := innerPairs(last)
		if !ok {
			return false
		}
		open = append(open, inner...)
	}
	return true
}

// innerPairs answers the pairs that stand in two values, of maps name by name. It answers false of two that differ, whatever stands in them.
func innerPairs(p pair) ([]pair, bool) {
	a, b := p.a, p.b
	if a.Kind != b.Kind || a.Num != b.Num || a.Text != b.Text || len(a.List) != len(b.List) || len(a.Keys) != len(b.Keys) {
		return nil, false
	}
	aNames, aPlaces := inOrder(a)
	bNames, bPlaces := inOrder(b)
	if !slices.Equal(aNames, bNames) {
		return nil, false
	}
	var inner []pair
	for i := range aPlaces {
		inner = append(inner, pair{&a.List[aPlaces[i]], &b.List[bPlaces[i]]})
	}
	return inner, true
}

// inOrder answers a value's names, and the places in its List of what stands in it: of a map as its names rise, of others as they stand. A map made by hand, of which not each value has a name, is one of the others; and if a name stands in it again, that keeps its order.
func inOrder(j *api.Json) (names []string, places []int) {
	for i := range j.List {
		places = append(places, i)
	}
	if j.Kind != api.JMap || len(j.Keys) != len(j.List) {
		return j.Keys, places
	}
	slices.SortStableFunc(places, func(x, y int) int { return strings.Compare(j.Keys[x], j.Keys[y]) })
	for _, place := range places {
		names = append(names, j.Keys[place])
	}
	return names, places
}
