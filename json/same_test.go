package json

import (
	"math/rand"
	"reflect"
	"slices"
	"strings"
	"testing"

	"glebe/api"
)

func parsed(t *testing.T, s string) api.Json {
	t.Helper()
	j, e := Parse([]byte(s))
	if e.Kind != 0 {
		t.Fatalf("Parse(%q) = %v", s, e)
	}
	return j
}

// checkSame asks both ways round.
func checkSame(t *testing.T, a, b api.Json, want bool) {
	t.Helper()
	if Same(a, b) != want || Same(b, a) != want {
		t.Errorf("Same(%.200s; %.200s) = %v, %v, want %v", show(a), show(b), Same(a, b), Same(b, a), want)
	}
}

// Promise 11.3: values are the same as themselves wherever they stand, and as no others.
func TestSame(t *testing.T) {
	all := []string{
		"null", "false", "true", "0", "1", "-1", "9223372036854775807", "-9223372036854775808", `""`, `"a"`, `"A"`, `"0"`, `"null"`, `"á"`, `"a\u0301"`,
		"[]", "[[]]", "[{}]", "[[],[]]", "[null]", "[0]", "[1]", "[1,2]", "[2,1]", "[1,1]", "[1,1,2]", "[1,2,2]", "[[1],2]", "[1,[2]]", "[[1,2]]", `["a"]`, `["a","b"]`, `["ab"]`,
		"{}", `{"a":1}`, `{"a":2}`, `{"b":1}`, `{"a":null}`, `{"a":"1"}`, `{"a":1,"b":2}`, `{"a":2,"b":1}`, `{"a":1,"c":2}`, `{"a":1,"b":2,"c":3}`, `{"a":[1,2]}`, `{"a":[2,1]}`, `{"a":{}}`, `{"a":[]}`, `{"a":{"b":1},"c":{}}`, `{"a":{},"c":{"b":1}}`, `[{"a":1,"b":2}]`, `[{"a":1},{"b":2}]`, `[{"b":2},{"a":1}]`, `{"":0}`, `{"a":1,"":1}`,
	}
	for i, one := range all {
		for k, other := range all {
			checkSame(t, parsed(t, one), parsed(t, " /* elsewhere */ "+other+"\n"), i == k)
		}
	}
}

// Promise 11.3: names of maps stand in any order, however deep the maps are; values of lists do not.
func TestSameInAnyOrder(t *testing.T) {
	for _, x := range []struct {
		a, b string
		want bool
	}{
		{`{"a":1,"b":2}`, `{"b":2,"a":1}`, true},
		{`{"a":1,"b":2}`, `{"b":1,"a":2}`, false},
		{`{"a":1,"b":2,"c":3}`, `{"c":3,"a":1,"b":2}`, true},
		{`{"a":1,"b":2,"c":3}`, `{"c":3,"a":2,"b":1}`, false},
		{`{"a":1,"b":1}`, `{"b":1,"c":1}`, false},
		{`[{"a":1,"b":[{"c":2,"d":3}]}]`, `[{"b":[{"d":3,"c":2}],"a":1}]`, true},
		{`[{"a":1,"b":[{"c":2,"d":3}]}]`, `[{"b":[{"d":2,"c":3}],"a":1}]`, false},
		{`{"a":{"x":1,"y":2},"b":{"y":2,"x":1}}`, `{"b":{"x":1,"y":2},"a":{"x":1,"y":2}}`, true},
		{`[{"a":1},{"b":2}]`, `[{"b":2},{"a":1}]`, false},
		{`{"a":[{"b":1},2]}`, `{"a":[2,{"b":1}]}`, false},
		{`{"a\u0062":1,"\u00e9":"\u20ac"}`, `{"é":"€","ab":1}`, true},
	} {
		checkSame(t, parsed(t, x.a), parsed(t, x.b), x.want)
	}
}

// shuffled is a value with its maps in another order, told elsewhere.
func shuffled(source *rand.Rand, j api.Json) api.Json {
	out := j
	out.At, out.List, out.Keys = source.Intn(100), nil, nil
	order := source.Perm(len(j.List))
	for i := range j.List {
		from := i
		if j.Kind == 7 {
			from = order[i]
			out.Keys = append(out.Keys, j.Keys[from])
		}
		out.List = append(out.List, shuffled(source, j.List[from]))
	}
	return out
}

// changed is a value with one thing in it another.
func changed(source *rand.Rand, j api.Json) api.Json {
	out := j
	out.List, out.Keys = slices.Clone(j.List), slices.Clone(j.Keys)
	if n := len(j.List); n > 0 && source.Intn(4) > 0 {
		i := source.Intn(n)
		out.List[i] = changed(source, j.List[i])
		return out
	}
	switch {
	case j.Kind == 4:
		out.Num ^= 1 << source.Intn(64)
	case j.Kind == 5:
		out.Text += "x"
	case j.Kind == 7 && len(j.Keys) > 0:
		out.Keys[source.Intn(len(j.Keys))] += "another name"
	case j.Kind == 6 && len(j.List) > 0 && source.Intn(2) == 0:
		out.List = out.List[1:]
	case j.Kind == 6:
		out.List = append(out.List, api.Json{Kind: 1})
	default:
		out = api.Json{Kind: j.Kind%3 + 1}
	}
	return out
}

// Promise 11.3: values at random, in other orders, and with one thing changed.
func TestSameAtRandom(t *testing.T) {
	source := rand.New(rand.NewSource(3))
	last := api.Json{}
	for range 20000 {
		j := made(source, 0)
		checkSame(t, j, shuffled(source, j), true)
		checkSame(t, j, shuffled(source, changed(source, j)), false)
		alike := reflect.DeepEqual(j, last)
		if j.Kind != 7 && j.Kind != 6 {
			checkSame(t, j, last, alike)
		}
		last = j
	}
}

// Promise 11.3: all fields but At count, of values made by hand too, and a list that is nil is as one that is empty.
func TestSameByHand(t *testing.T) {
	one := []api.Json{{Kind: 4, Num: 1}}
	two := []api.Json{{Kind: 4, Num: 1}, {Kind: 4, Num: 2}}
	turned := []api.Json{{Kind: 4, Num: 2}, {Kind: 4, Num: 1}}
	for _, x := range []struct {
		a, b api.Json
		want bool
	}{
		{api.Json{}, api.Json{}, true},
		{api.Json{}, api.Json{At: 5}, true},
		{api.Json{}, api.Json{Kind: 1}, false},
		{api.Json{Kind: -1}, api.Json{Kind: -1, At: -1}, true},
		{api.Json{Kind: 4, Num: 1}, api.Json{Kind: 4, Num: 1, Text: "a"}, false},
		{api.Json{Kind: 5, Text: "a"}, api.Json{Kind: 5, Text: "a", Num: 1}, false},
		{api.Json{Kind: 1}, api.Json{Kind: 1, List: one}, false},
		{api.Json{Kind: 6, List: []api.Json{}}, api.Json{Kind: 6, Keys: []string{}}, true},
		{api.Json{Kind: 7, List: []api.Json{}}, api.Json{Kind: 7}, true},
		{api.Json{Kind: 6}, api.Json{Kind: 7}, false},
		{api.Json{Kind: 6, List: one}, api.Json{Kind: 6, List: one, Keys: []string{"a"}}, false},
		{api.Json{Kind: 6, List: two, Keys: []string{"a", "b"}}, api.Json{Kind: 6, List: turned, Keys: []string{"b", "a"}}, false},
		{api.Json{Kind: 7, List: two, Keys: []string{"a", "b"}}, api.Json{Kind: 7, List: turned, Keys: []string{"b", "a"}}, true},
		{api.Json{Kind: 7, List: two, Keys: []string{"a"}}, api.Json{Kind: 7, List: two, Keys: []string{"a"}}, true},
		{api.Json{Kind: 7, List: two, Keys: []string{"a"}}, api.Json{Kind: 7, List: turned, Keys: []string{"a"}}, false},
		{api.Json{Kind: 7, List: two, Keys: []string{"a"}}, api.Json{Kind: 7, List: two, Keys: []string{"b"}}, false},
		{api.Json{Kind: 7, List: two}, api.Json{Kind: 7, List: one}, false},
		{api.Json{Kind: 7, Keys: []string{"a", "b"}}, api.Json{Kind: 7, Keys: []string{"a", "b"}}, true},
		{api.Json{Kind: 7, Keys: []string{"a", "b"}}, api.Json{Kind: 7, Keys: []string{"a"}}, false},
		{api.Json{Kind: 7, List: two, Keys: []string{"a", "a"}}, api.Json{Kind: 7, List: one, Keys: []string{"a"}}, false},
		{api.Json{Kind: 7, List: two, Keys: []string{"a", "a"}}, api.Json{Kind: 7, List: two, Keys: []string{"a", "b"}}, false},
	} {
		checkSame(t, x.a, x.a, true)
		checkSame(t, x.b, x.b, true)
		checkSame(t, x.a, x.b, x.want)
	}
}

// Promise 11.3: names that stand in a map made by hand more than once are held against each other in their order.
func TestSameOfOneName(t *testing.T) {
	var a, b, turned api.Json
	a.Kind, b.Kind, turned.Kind = 7, 7, 7
	for i := range int64(100) {
		one, other := api.Json{Kind: 4, Num: i}, api.Json{Kind: 4, Num: -i}
		a.Keys, a.List = append(a.Keys, "a", "b"), append(a.List, one, other)
		b.Keys, b.List = append(b.Keys, "b", "a"), append(b.List, other, one)
		turned.Keys, turned.List = append(turned.Keys, "b", "a"), append(turned.List, one, other)
	}
	checkSame(t, a, b, true)
	checkSame(t, a, turned, false)
}

// inItself is a list of lists, the last of which is the first again.
func inItself(size int, num int64) api.Json {
	round := make([]api.Json, size)
	for i := range round {
		next := (i + 1) % size
		round[i] = api.Json{Kind: 6, At: i, List: round[next : next+1]}
	}
	round[0].Num = num
	return round[0]
}

// shared is a list of two lists of two lists, and so on, of which those of one depth are one alone.
func shared(depth int, num int64) api.Json {
	j := api.Json{Kind: 4, Num: num}
	for range depth {
		j = api.Json{Kind: 6, List: []api.Json{j, j}}
	}
	return j
}

// deep is a value in so many maps, each in the other.
func deep(n int, num int64) api.Json {
	j := api.Json{Kind: 4, Num: num}
	for range n {
		j = api.Json{Kind: 7, Keys: []string{"a"}, List: []api.Json{j}}
	}
	return j
}

// Promises 11.3 and 11.5: Same ends of any values made by hand, those that no text tells too.
func TestSameEnds(t *testing.T) {
	checkSame(t, inItself(1, 0), inItself(1, 0), true)
	checkSame(t, inItself(1, 0), inItself(1, 1), false)
	checkSame(t, inItself(6, 0), inItself(35, 0), true)
	checkSame(t, inItself(6, 1), inItself(35, 1), false)
	checkSame(t, inItself(6, 1), inItself(6, 1), true)
	checkSame(t, shared(100, 1), shared(100, 1), true)
	checkSame(t, shared(100, 1), shared(100, 2), false)
	checkSame(t, shared(100, 1), shared(101, 1), false)
	for _, num := range []int64{1, 2} {
		if Same(deep(300000, 1), deep(300000, num)) != (num == 1) {
			t.Errorf("deep values with 1 and %d in them", num)
		}
	}
	wide := "[" + strings.Repeat(`{"a":1},`, 100000) + `{"a":`
	checkSame(t, parsed(t, wide+"1}]"), parsed(t, wide+" 1 } ]"), true)
	checkSame(t, parsed(t, wide+"1}]"), parsed(t, wide+"2}]"), false)
}

// What is handed in to Same is not changed: names stay as they stand.
func TestSameMemory(t *testing.T) {
	a, b := parsed(t, `{"c":[3],"a":{"z":1,"y":2},"b":2}`), parsed(t, `{"b":2,"c":[3],"a":{"y":2,"z":1}}`)
	wasA, wasB := show(a), show(b)
	checkSame(t, a, b, true)
	if show(a) != wasA || show(b) != wasB {
		t.Errorf("what is handed in has become %s, %s", show(a), show(b))
	}
}
