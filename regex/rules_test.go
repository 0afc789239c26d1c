package regex_test

import (
	"fmt"
	"math/rand/v2"
	"reflect"
	"slices"
	"strings"
	"sync"
	"testing"

	"gabarit/api"
	"gabarit/regex"
)

// arguments are those of the functions of the package.
type arguments struct {
	x    api.Regex
	text string
	s    string
	a, b []api.Range
}

// String writes g, but for expressions that are not small: they may contain themselves.
func (g arguments) String() string {
	x := "an expression that is not small"
	if regex.Check(g.x) != api.ErrLong {
		x = fmt.Sprint(g.x)
	}
	return fmt.Sprintf("%s, %.100q, %.100q, %.100v, %.100v", x, g.text, g.s, g.a, g.b)
}

// result is what a function returns: all results but the error, lists without memory as nil, and the error.
type result struct {
	what   string
	values []any
	e      api.Errno
}

// results calls every function of the package.
func results(g arguments) []result {
	l := []result{{"Check", nil, regex.Check(g.x)}}
	add := func(what string, e api.Errno, values ...any) { l = append(l, result{what, values, e}) }
	x, at, e := regex.Parse(g.text)
	add("Parse", e, nils(x), at)
	text, e := regex.Print(g.x)
	add("Print", e, text)
	yes, e := regex.Match(g.x, g.s)
	add("Match", e, yes)
	for _, p := range pairs {
		set, e := p.f(g.a, g.b)
		add(p.what, e, append([]api.Range(nil), set...))
	}
	return l
}

// may are the errors that each function may return.
func may(what string) []api.Errno {
	switch what {
	case "Check", "Print":
		return []api.Errno{api.OK, api.ErrLong, api.ErrArg}
	case "Parse":
		return []api.Errno{api.OK, api.ErrLong, api.ErrForm}
	case "Match":
		return []api.Errno{api.OK, api.ErrLong, api.ErrArg, api.ErrForm}
	}
	return []api.Errno{api.OK, api.ErrArg}
}

// randomArguments are arguments of which some are not valid.
func randomArguments(r *rand.Rand) arguments {
	g := arguments{randomRegex(r, 4, 5), randomText(r), "", randomSet(r), randomSet(r)}
	for range r.IntN(9) {
		g.s += string(oneOf(r, randomLetters(r, g.x)...))
	}
	switch r.IntN(6) {
	case 0:
		bad := notValid()
		g.x = bad[r.IntN(len(bad))]
	case 1:
		change(r, &g.x, char('a'))
	case 2:
		g.s += oneOf(r, "\xff", "\x00", strings.Repeat("a", 1001))
	case 3:
		ends := noSets[r.IntN(len(noSets))]
		*oneOf(r, &g.a, &g.b) = set(ends...)
	}
	return g
}

// R1, R2, R8: for all arguments, every function returns; with an error, all other results are zero, but for the byte of ErrForm; without one, expressions and sets are valid.
func TestAllArguments(t *testing.T) {
	check := func(g arguments) {
		for _, x := range results(g) {
			if !slices.Contains(may(x.what), x.e) {
				t.Errorf("%s(%v): the error %d", x.what, g, x.e)
			}
			for _, v := range x.values {
				if _, ok := v.(int); x.e != api.OK && !reflect.ValueOf(v).IsZero() && !(ok && x.e == api.ErrForm) {
					t.Errorf("%s(%v): %v with the error %d", x.what, g, v, x.e)
				}
				if y, ok := v.(api.Regex); ok && x.e == api.OK && !(isSmall(y) && isValid(y)) {
					t.Errorf("%s(%v): %v is not valid", x.what, g, y)
				}
				if l, ok := v.([]api.Range); ok && !isSet(l) {
					t.Errorf("%s(%v): %v is no set", x.what, g, l)
				}
				if n, ok := v.(int); ok && (n < 0 || n > len(g.text)) {
					t.Errorf("%s(%v): the byte %d", x.what, g, n)
				}
			}
		}
	}
	strange := []string{"", "a", "\xff", strings.Repeat("(", 60001), strings.Repeat("[", 60000), strings.Repeat("\\", 59999), strings.Repeat("a", 1001), "\x00"}
	lists := [][]api.Range{nil, {}, gaps(201), {{}}, make([]api.Range, 1000), set(noSets[16]...), set(1<<31-1, -1<<31), set(9, 10)}
	for i, x := range slices.Concat(large(), notValid(), atLimits()) {
		check(arguments{x, strange[i%len(strange)], strange[i/3%len(strange)], lists[i%len(lists)], lists[i/5%len(lists)]})
	}
	randoms(t, 3000, func(r *rand.Rand) { check(randomArguments(r)) })
}

// copied is a copy of g that shares no memory with it.
func copied(g arguments) arguments {
	return arguments{nils(g.x), strings.Clone(g.text), strings.Clone(g.s), slices.Clone(g.a), slices.Clone(g.b)}
}

// R3: arguments are not changed.
func TestArgumentsStay(t *testing.T) {
	randoms(t, 3000, func(r *rand.Rand) {
		g := randomArguments(r)
		was := copied(g)
		results(g)
		if !same(g.x, was.x) || g.text != was.text || g.s != was.s || !equal(g.a, was.a) || !equal(g.b, was.b) {
			t.Errorf("changed: %v, now %v", was, g)
		}
	})
}

// R3: what an argument holds behind the end of a list is not changed either.
func TestArgumentsStayBehindTheirEnds(t *testing.T) {
	randoms(t, 2000, func(r *rand.Rand) {
		a, b := append(randomSet(r), set(7, 7, 7, 7)...), append(randomSet(r), set(8, 8, 8, 8)...)
		wasA, wasB := slices.Clone(a), slices.Clone(b)
		for _, p := range pairs {
			p.f(a[:len(a)-2], b[:len(b)-2])
		}
		if !equal(a, wasA) || !equal(b, wasB) {
			t.Errorf("changed: %v and %v, now %v and %v", wasA, wasB, a, b)
		}
	})
}

// R3: results are new memory.
func TestResultsAreNew(t *testing.T) {
	randoms(t, 2000, func(r *rand.Rand) {
		g := randomArguments(r)
		want := results(g)
		var sets [][]api.Range
		for _, p := range pairs {
			l, _ := p.f(g.a, g.b)
			sets = append(sets, l)
		}
		x, _, _ := regex.Parse(g.text)
		spoil(x)
		for _, l := range sets {
			spoilSet(l)
		}
		if again := results(g); !reflect.DeepEqual(again, want) {
			t.Errorf("%v: %v, then %v", g, want, again)
		}
	})
	all, everything := everyCharacter(), everyCharacter()
	for _, p := range pairs {
		for _, c := range [][2][]api.Range{{all, nil}, {nil, all}, {all, all}, {set('a', 'b'), all}} {
			l, _ := p.f(c[0], c[1])
			spoilSet(l)
			if !equal(all, everything) {
				t.Fatalf("%s shares memory with its arguments", p.what)
			}
		}
	}
}

// R3: no two lists of one result share memory.
func TestListsAreApart(t *testing.T) {
	for _, s := range []string{`\d\d\D\D..\s\w\S\W`, `[\d][\d][\D][^\d][\s\w][\s\w]`, "aaaa", "(a|b|c)(a|b|c)", "a*a*a*", "(((a)))b|[a][a]", "[a-c-[b]][a-c-[b]]"} {
		x := parse(t, s)
		was := nils(x)
		for i := range x.Args {
			for k := range x.Args {
				if k != i {
					y := parse(t, s)
					spoil(y.Args[k])
					_ = append(y.Args[k].Set, set(1, 1, 2, 2)...)
					_ = append(y.Args[k].Args, many(3, empty())...)
					if !same(y.Args[i], was.Args[i]) {
						t.Errorf("Parse(%q): the arguments %d and %d share memory", s, i, k)
					}
				}
			}
		}
	}
}

// emptied is x with empty lists where it has none.
func emptied(x api.Regex) api.Regex {
	x.Set = append([]api.Range{}, x.Set...)
	args := x.Args
	x.Args = []api.Regex{}
	for _, arg := range args {
		x.Args = append(x.Args, emptied(arg))
	}
	return x
}

// R4: a list may be nil or empty.
func TestNilOrEmpty(t *testing.T) {
	randoms(t, 2000, func(r *rand.Rand) {
		g := randomArguments(r)
		h := arguments{emptied(g.x), g.text, g.s, append([]api.Range{}, g.a...), append([]api.Range{}, g.b...)}
		if x, y := results(g), results(h); !reflect.DeepEqual(x, y) {
			t.Errorf("%v: %v, with empty lists %v", g, x, y)
		}
	})
	for _, p := range pairs {
		want, e := p.f(nil, nil)
		if got, f := p.f([]api.Range{}, []api.Range{}); e != api.OK || f != api.OK || !equal(got, want) {
			t.Errorf("%s: %v, %v with empty lists", p.what, want, got)
		}
	}
}

// R6: results depend only on the arguments, whatever else is called before, or at the same time.
func TestSameAgain(t *testing.T) {
	var all []arguments
	var want [][]result
	randoms(t, 1000, func(r *rand.Rand) {
		g := randomArguments(r)
		all = append(all, g)
		want = append(want, results(g))
	})
	var group sync.WaitGroup
	for range 4 {
		group.Go(func() {
			for i := len(all) - 1; i >= 0; i-- {
				if again := results(copied(all[i])); !reflect.DeepEqual(again, want[i]) {
					t.Errorf("%v: %v, then %v", all[i], want[i], again)
				}
			}
		})
	}
	group.Wait()
}

// R7: inputs that are large.
func TestLarge(t *testing.T) {
	huge := strings.Repeat("a", 50000000)
	if x, at, e := regex.Parse(huge); !isNothing(x) || at != 0 || e != api.ErrLong {
		t.Errorf("Parse of %d bytes: %d at %d", len(huge), e, at)
	}
	if yes, e := regex.Match(times(0, -1, char('a')), huge); yes || e != api.ErrLong {
		t.Errorf("Match with %d bytes: %d", len(huge), e)
	}
	var odd, even []api.Range
	for c := int32(65536); c < 1114111; c += 2 {
		odd, even = append(odd, api.Range{Low: c + 1, High: c + 1}), append(even, api.Range{Low: c, High: c})
	}
	if l, e := regex.Union(odd, even); e != api.OK || !equal(l, set(65536, 1114111)) {
		t.Errorf("Union of %d ranges: %d, %d", len(odd), len(l), e)
	}
	if l, e := regex.Meet(odd, even); e != api.OK || len(l) != 0 {
		t.Errorf("Meet of %d ranges: %d, %d", len(odd), len(l), e)
	}
	if l, e := regex.Minus(odd, even); e != api.OK || !equal(l, odd) {
		t.Errorf("Minus of %d ranges: %d, %d", len(odd), len(l), e)
	}
	if l, e := regex.Not(odd); e != api.OK || !equal(l, append(set(9, 10, 13, 13, 32, 55295, 57344, 65533), even...)) {
		t.Errorf("Not of %d ranges: %d, %d", len(odd), len(l), e)
	}
	if e := regex.Check(seq(make([]api.Regex, 5000000)...)); e != api.ErrLong {
		t.Errorf("Check of 5000000 expressions: %d", e)
	}
}
