package regex_test

import (
	"math/rand/v2"
	"reflect"
	"slices"
	"testing"

	"gabarit/api"
	"gabarit/regex"
)

// everyCharacter is the set of all characters.
func everyCharacter() []api.Range {
	return set(9, 10, 13, 13, 32, 55295, 57344, 65533, 65536, 1114111)
}

// pairs are the functions of two sets, and which characters they want.
var pairs = []struct {
	what   string
	f      func(a, b []api.Range) ([]api.Range, api.Errno)
	wanted func(inA, inB bool) bool
}{
	{"Union", regex.Union, func(inA, inB bool) bool { return inA || inB }},
	{"Meet", regex.Meet, func(inA, inB bool) bool { return inA && inB }},
	{"Minus", regex.Minus, func(inA, inB bool) bool { return inA && !inB }},
	{"Not", func(a, _ []api.Range) ([]api.Range, api.Errno) { return regex.Not(a) }, func(inA, _ bool) bool { return !inA }},
}

// equal reports whether two sets are the same list.
func equal(a, b []api.Range) bool { return slices.Equal(a, b) }

// P7.5: the example, and sets by hand.
func TestSetsByHand(t *testing.T) {
	for _, c := range []struct{ a, union, meet, minus, not []api.Range }{
		{nil, set('b', 'd'), nil, nil, everyCharacter()},
		{set('a', 'a'), set('a', 'd'), nil, set('a', 'a'), set(9, 10, 13, 13, 32, 96, 98, 55295, 57344, 65533, 65536, 1114111)},
		{set('e', 'e'), set('b', 'e'), nil, set('e', 'e'), set(9, 10, 13, 13, 32, 100, 102, 55295, 57344, 65533, 65536, 1114111)},
		{set('f', 'g'), set('b', 'd', 'f', 'g'), nil, set('f', 'g'), set(9, 10, 13, 13, 32, 101, 104, 55295, 57344, 65533, 65536, 1114111)},
		{set('b', 'd'), set('b', 'd'), set('b', 'd'), nil, set(9, 10, 13, 13, 32, 97, 101, 55295, 57344, 65533, 65536, 1114111)},
		{set('a', 'e'), set('a', 'e'), set('b', 'd'), set('a', 'a', 'e', 'e'), set(9, 10, 13, 13, 32, 96, 102, 55295, 57344, 65533, 65536, 1114111)},
		{set('c', 'c'), set('b', 'd'), set('c', 'c'), nil, set(9, 10, 13, 13, 32, 98, 100, 55295, 57344, 65533, 65536, 1114111)},
		{set('a', 'b', 'd', 'e'), set('a', 'e'), set('b', 'b', 'd', 'd'), set('a', 'a', 'e', 'e'), set(9, 10, 13, 13, 32, 96, 99, 99, 102, 55295, 57344, 65533, 65536, 1114111)},
		{set(9, 9, 65533, 65533, 1114111, 1114111), set(9, 9, 98, 100, 65533, 65533, 1114111, 1114111), nil, set(9, 9, 65533, 65533, 1114111, 1114111), set(10, 10, 13, 13, 32, 55295, 57344, 65532, 65536, 1114110)},
		{everyCharacter(), everyCharacter(), set('b', 'd'), set(9, 10, 13, 13, 32, 97, 101, 55295, 57344, 65533, 65536, 1114111), nil},
		{set(32, 55295, 57344, 65533), set(32, 55295, 57344, 65533), set('b', 'd'), set(32, 97, 101, 55295, 57344, 65533), set(9, 10, 13, 13, 65536, 1114111)},
	} {
		b := set('b', 'd')
		for i, want := range [][]api.Range{c.union, c.meet, c.minus, c.not} {
			if got, e := pairs[i].f(c.a, b); e != api.OK || !equal(got, want) {
				t.Errorf("%s of %v: %v, %d, want %v", pairs[i].what, c.a, got, e, want)
			}
		}
	}
}

// P7.5: ErrArg if a, or b, is no set; no limit but this.
func TestNoSets(t *testing.T) {
	good := set('a', 'c')
	for _, ends := range noSets {
		bad := set(ends...)
		for _, p := range pairs {
			for _, c := range [][2][]api.Range{{bad, good}, {good, bad}, {bad, bad}, {bad, nil}, {nil, bad}} {
				if p.what == "Not" && !reflect.DeepEqual(c[0], bad) {
					continue
				}
				if got, e := p.f(c[0], c[1]); e != api.ErrArg || len(got) != 0 {
					t.Errorf("%s(%v, %v): %v, %d", p.what, c[0], c[1], got, e)
				}
			}
		}
	}
	for _, p := range pairs {
		if got, e := p.f(gaps(20000), gaps(20001)); e != api.OK || !isSet(got) {
			t.Errorf("%s of large sets: %d", p.what, e)
		}
	}
}

// P7.5: random sets, by all characters and numbers that are none.
func TestSetsByCharacters(t *testing.T) {
	randoms(t, 15, func(r *rand.Rand) {
		a, b := randomSet(r), randomSet(r)
		for _, p := range pairs {
			got, e := p.f(a, b)
			if e != api.OK || !isSet(got) {
				t.Fatalf("%s(%v, %v): %v, %d", p.what, a, b, got, e)
			}
			for c := int32(-10); c < 1114111+70000; c++ {
				want := isCharacter(c) && p.wanted(in(a, c), in(b, c))
				if in(got, c) != want {
					t.Fatalf("%s(%v, %v): %v, with %d: %v", p.what, a, b, got, c, !want)
				}
			}
		}
	})
}

// P7.5: many random sets.
func TestSetsRandom(t *testing.T) {
	randoms(t, 20000, func(r *rand.Rand) {
		a, b := randomSet(r), randomSet(r)
		changes := append(changesOf(a), changesOf(b)...)
		for _, p := range pairs {
			want := setWith(slices.Clone(changes), func(c int32) bool { return p.wanted(in(a, c), in(b, c)) })
			if got, e := p.f(a, b); e != api.OK || !equal(got, want) {
				t.Errorf("%s(%v, %v): %v, %d, want %v", p.what, a, b, got, e, want)
			}
		}
	})
}

// P7.7: the laws of sets.
func TestLawsOfSets(t *testing.T) {
	must := func(l []api.Range, e api.Errno) []api.Range {
		t.Helper()
		if e != api.OK {
			t.Fatalf("the error %d", e)
		}
		return l
	}
	union := func(a, b []api.Range) []api.Range { return must(regex.Union(a, b)) }
	meet := func(a, b []api.Range) []api.Range { return must(regex.Meet(a, b)) }
	minus := func(a, b []api.Range) []api.Range { return must(regex.Minus(a, b)) }
	not := func(a []api.Range) []api.Range { return must(regex.Not(a)) }
	all := everyCharacter()
	randoms(t, 5000, func(r *rand.Rand) {
		a, b, c := randomSet(r), randomSet(r), randomSet(r)
		for what, sides := range map[string][2][]api.Range{
			"a or b is b or a":                            {union(a, b), union(b, a)},
			"a and b is b and a":                          {meet(a, b), meet(b, a)},
			"or goes together as one likes":               {union(a, union(b, c)), union(union(a, b), c)},
			"and goes together as one likes":              {meet(a, meet(b, c)), meet(meet(a, b), c)},
			"a and (b or c) is a and b or a and c":        {meet(a, union(b, c)), union(meet(a, b), meet(a, c))},
			"a or (b and c) is (a or b) and (a or c)":     {union(a, meet(b, c)), meet(union(a, b), union(a, c))},
			"not (a or b) is not a and not b":             {not(union(a, b)), meet(not(a), not(b))},
			"not (a and b) is not a or not b":             {not(meet(a, b)), union(not(a), not(b))},
			"not not a is a":                              {not(not(a)), a},
			"a without b is a and not b":                  {minus(a, b), meet(a, not(b))},
			"a without b, and a and b, are a":             {union(minus(a, b), meet(a, b)), a},
			"a or a is a":                                 {union(a, a), a},
			"a and a is a":                                {meet(a, a), a},
			"a without a is nothing":                      {minus(a, a), nil},
			"a or nothing is a":                           {union(a, nil), a},
			"a and nothing is nothing":                    {meet(a, nil), nil},
			"a or all is all":                             {union(a, all), all},
			"a and all is a":                              {meet(a, all), a},
			"a or not a is all":                           {union(a, not(a)), all},
			"a and not a is nothing":                      {meet(a, not(a)), nil},
			"a or (a and b) is a":                         {union(a, meet(a, b)), a},
			"a without (b or c) is a without b without c": {minus(a, union(b, c)), minus(minus(a, b), c)},
		} {
			if !equal(sides[0], sides[1]) {
				t.Errorf("%s: %v and %v, for %v, %v, %v", what, sides[0], sides[1], a, b, c)
			}
		}
	})
}
