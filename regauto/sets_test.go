package regauto_test

import (
	"math/rand/v2"
	"slices"
	"strings"
	"testing"

	"gabarit/api"
	"gabarit/regauto"
)

// operation is a function that makes an automaton of others, and which words it wants.
type operation struct {
	what   string
	f      func(a, b api.Auto) (api.Auto, api.Errno)
	wanted func(in []bool) bool
}

// pairs are the operations with two automata; operations are all, Not with a second one that does not matter.
var (
	pairs = []operation{
		{"Meet", regauto.Meet, func(in []bool) bool { return in[0] && in[1] }},
		{"Join", regauto.Join, func(in []bool) bool { return in[0] || in[1] }},
		{"Minus", regauto.Minus, func(in []bool) bool { return in[0] && !in[1] }},
	}
	operations = append(slices.Clone(pairs), operation{"Not", func(a, _ api.Auto) (api.Auto, api.Errno) { return regauto.Not(a) }, func(in []bool) bool { return !in[0] }})
)

// P8.4: Meet, Join and Minus by hand.
func TestPairs(t *testing.T) {
	for _, c := range []struct{ a, b, meet, join, minus api.Auto }{
		{made(t, "a*"), made(t, "[ab]*"), auto("!a>0"), auto("!a..b>0"), none()},
		{made(t, "[ab]*"), made(t, "a*"), auto("!a>0"), auto("!a..b>0"), auto("a>0 b>1", "!a..b>1")},
		{made(t, "a|b"), made(t, "b|c"), auto("b>1", "!"), auto("a..c>1", "!"), auto("a>1", "!")},
		{made(t, "a"), made(t, "b"), none(), auto("a..b>1", "!"), auto("a>1", "!")},
		{made(t, "a"), made(t, "c"), none(), auto("a>1 c>1", "!"), auto("a>1", "!")},
		{made(t, "ab|b"), made(t, "b|ba"), auto("b>1", "!"), auto("a>1 b>2", "b>3", "!a>3", "!"), auto("a>1", "b>2", "!")},
		{none(), none(), none(), none(), none()},
		{none(), made(t, "a+"), none(), auto("a>1", "!a>1"), none()},
		{made(t, "a+"), none(), none(), auto("a>1", "!a>1"), auto("a>1", "!a>1")},
		{all(), made(t, "a?"), auto("!a>1", "!"), all(), auto("#9..#10>1 #13>1 #32..#96>1 a>2 b..#55295>1 #57344..#65533>1 #65536..#1114111>1", "!#9..#10>1 #13>1 #32..#55295>1 #57344..#65533>1 #65536..#1114111>1", "#9..#10>1 #13>1 #32..#55295>1 #57344..#65533>1 #65536..#1114111>1")},
		{multiples(2), multiples(3), multiples(6), auto("!a>1", "a>2", "!a>3", "!a>4", "!a>5", "a>0"), auto("a>1", "a>2", "!a>3", "a>4", "!a>5", "a>0")},
		// What is the same, or of no use, in the arguments is not in the results.
		{auto("a>1 b>2", "!c>1", "!c>2"), auto("a..b>1", "!c>1"), auto("a..b>1", "!c>1"), auto("a..b>1", "!c>1"), none()},
		{auto("a>3 b>2 c>1", "a>1", "!", "!", "!a>4"), auto("a>1 d>2", "!b>2", "c>2"), auto("a>1", "!"), auto("a..b>1", "!"), auto("b>1", "!")},
	} {
		for i, want := range []api.Auto{c.meet, c.join, c.minus} {
			got, e := pairs[i].f(c.a, c.b)
			if e != api.OK || !same(got, want) {
				t.Errorf("%s(%s, %s): %s, %d, want %s", pairs[i].what, show(c.a), show(c.b), show(got), e, show(want))
			}
		}
	}
}

// P8.4: Not, by hand.
func TestNot(t *testing.T) {
	const every1, every2 = "#9..#10>1 #13>1 #32..#55295>1 #57344..#65533>1 #65536..#1114111>1", "#9..#10>2 #13>2 #32..#55295>2 #57344..#65533>2 #65536..#1114111>2"
	for _, c := range []struct{ a, want api.Auto }{
		{none(), all()}, {all(), none()}, {auto("a>1", ""), all()}, {made(t, `[\s\S]*`), none()},
		{auto("!"), auto(every1, "!"+every1)},
		{made(t, `[\s\S]+`), auto("!")},
		{made(t, "a*"), auto("#9..#10>1 #13>1 #32..#96>1 a>0 b..#55295>1 #57344..#65533>1 #65536..#1114111>1", "!"+every1)},
		{made(t, "a"), auto("!#9..#10>1 #13>1 #32..#96>1 a>2 b..#55295>1 #57344..#65533>1 #65536..#1114111>1", "!"+every1, every1)},
		{made(t, "[\ue000-\U0010ffff]*"), auto("#9..#10>1 #13>1 #32..#55295>1 #57344..#65533>0 #65536..#1114111>0", "!"+every1)},
		{made(t, "(a|b)*b"), auto("!#9..#10>1 #13>1 #32..#96>1 a>0 b>2 c..#55295>1 #57344..#65533>1 #65536..#1114111>1", "!"+every1, "#9..#10>1 #13>1 #32..#96>1 a>0 b>2 c..#55295>1 #57344..#65533>1 #65536..#1114111>1")},
		{made(t, "\t|\U0010ffff"), auto("!#9>1 #10>2 #13>2 #32..#55295>2 #57344..#65533>2 #65536..#1114110>2 #1114111>1", every2, "!"+every2)},
	} {
		if got, e := regauto.Not(c.a); e != api.OK || !same(got, c.want) {
			t.Errorf("Not(%s): %s, %d, want %s", show(c.a), show(got), e, show(c.want))
		}
	}
}

// P8.4: random automata.
func TestPairsRandom(t *testing.T) {
	states := 0
	randoms(t, 3000, func(r *rand.Rand) {
		a, b := randomAuto(r), randomAuto(r)
		for _, p := range operations {
			got, e := p.f(a, b)
			expect(t, p.what, got, e, []api.Auto{a, b}, p.wanted)
			states += len(got.Final)
		}
	})
	if !t.Failed() && states < 25000 {
		t.Errorf("only %d states", states)
	}
}

// sized is an automaton with so many states and ends, which are the numbers from one on; its words have one character.
func sized(states, ends int, from int32) api.Auto {
	a := padded(auto("", "!"), states-2)
	if ends%2 == 1 {
		a.Steps[0] = []api.Step{{Low: 32, High: from - 1, To: 1}}
		from++
	}
	a.Steps[0] = append(a.Steps[0], singles(from, ends/2, 1)...)
	return a
}

// P8.4, P8.5: automata that are as large as may be together, and that are too large.
func TestTooLargeTogether(t *testing.T) {
	for _, c := range []struct {
		a, b  api.Auto
		large bool
	}{
		{sized(499, 75, 300), sized(499, 75, 300), false}, {sized(499, 76, 300), sized(499, 76, 300), true}, {sized(500, 75, 300), sized(499, 75, 300), true}, {sized(499, 75, 300), sized(500, 75, 300), true}, {sized(500, 74, 300), sized(499, 74, 300), false}, {sized(500, 74, 300), sized(500, 74, 300), false}, {sized(500, 75, 300), sized(500, 75, 300), true},
		{sized(499, 40, 300), sized(499, 35, 340), false}, {sized(499, 40, 300), sized(499, 36, 340), true}, {sized(499, 41, 300), sized(499, 35, 341), true}, {sized(499, 40, 300), sized(499, 55, 320), false}, {sized(499, 40, 300), sized(499, 56, 320), true}, {sized(499, 0, 300), sized(499, 75, 300), false}, {sized(499, 76, 300), sized(499, 0, 300), true},
		{sized(249, 155, 300), sized(499, 155, 300), false}, {sized(249, 156, 300), sized(499, 155, 300), true}, {sized(99, 395, 300), sized(499, 100, 400), false}, {sized(99, 396, 300), sized(499, 100, 400), true},
		{padded(steep(4000, 1000), 7), padded(steep(4000, 1000), 496), false}, {padded(steep(4000, 1000), 7), padded(steep(4000, 1000), 497), true}, {padded(steep(4000, 1000), 497), padded(steep(4000, 1000), 7), true}, {steep(4000, 10), steep(4000, 10), true}, {steep(4000, 1000), steep(4000, 1000), false},
	} {
		want, yes := api.OK, true
		if c.large {
			want, yes = api.ErrLong, false
		}
		for _, p := range pairs {
			got, e := p.f(c.a, c.b)
			if e != want || c.large != isNothing(got) {
				t.Errorf("%s of %d and %d states with %d ends: %d, want %d", p.what, len(c.a.Final), len(c.b.Final), len(endsOf(c.a, c.b)), e, want)
			}
		}
		_, differ := firstWord([]api.Auto{c.a, c.b}, func(in []bool) bool { return in[1] && !in[0] })
		got, word, e := regauto.Includes(c.a, c.b)
		if e != want || got != (yes && !differ) || c.large && word != "" {
			t.Errorf("Includes of %d and %d states: %v, %q, %d, want %d", len(c.a.Final), len(c.b.Final), got, word, e, want)
		}
		_, unlike := firstWord([]api.Auto{c.a, c.b}, func(in []bool) bool { return in[1] != in[0] })
		if got := regauto.Same(c.a, c.b); got != (yes && !unlike) {
			t.Errorf("Same of %d and %d states: %v", len(c.a.Final), len(c.b.Final), got)
		}
	}
}

// P8.4: results that are as large as automata may be, and that are too large.
func TestTooLargeResults(t *testing.T) {
	// These words have 3998 ends, and begin in 999 ways.
	steepWords := api.Auto{Final: []bool{false, false, true}, Steps: [][]api.Step{append(steps("b>1"), singles(300, 998, 2)...), singles(2296, 1000, 2), nil}}
	for _, c := range []struct {
		what   string
		a, b   api.Auto
		states int
	}{
		{"Meet", multiples(4), multiples(125), 500}, {"Meet", multiples(3), multiples(167), -1}, {"Meet", multiples(23), multiples(29), -1}, {"Meet", multiples(499), multiples(500), -1}, {"Meet", multiples(500), multiples(250), 500}, {"Meet", multiples(20), multiples(21), 420},
		{"Join", multiples(4), multiples(125), 500}, {"Join", multiples(3), multiples(167), -1}, {"Join", chain(499), none(), 500}, {"Join", chain(499), auto("!"), 500}, {"Join", chain(499), auto("b>1", "!"), 500}, {"Join", chain(499), auto("b>1", "b>2", "!"), -1}, {"Join", chain(498), auto("b>1", "b>2", "!"), 500},
		{"Minus", multiples(4), multiples(125), 500}, {"Minus", multiples(3), multiples(167), -1}, {"Minus", multiples(23), multiples(29), -1}, {"Minus", chain(499), none(), 500},
		{"Not", chain(498), none(), 500}, {"Not", chain(499), none(), -1}, {"Not", multiples(499), none(), 500}, {"Not", multiples(500), none(), -1},
		// Steps of a state: 1000, and 1001. n characters with gaps leave n + 5 ranges.
		{"Join", fan(300, 500), fan(1300, 500), 2}, {"Join", fan(300, 501), fan(1302, 500), -1}, {"Join", fan(300, 1000), fan(301, 1000), 2}, {"Join", fan(300, 1000), fan(300, 1000), 2}, {"Join", fan(300, 1000), fan(2299, 1), 2}, {"Join", fan(300, 1000), fan(2300, 1), -1},
		{"Minus", fan(300, 1000), fan(2298, 1), 2}, {"Minus", made(t, `[\s\S]`), fan(300, 995), 2}, {"Minus", made(t, `[\s\S]`), fan(300, 996), -1}, {"Meet", made(t, `[\s\S]`), fan(300, 1000), 2},
		{"Not", fan(300, 497), none(), 3}, {"Not", fan(300, 498), none(), -1}, {"Not", fan(300, 1000), none(), -1}, {"Not", fan(32, 498), none(), 3}, {"Not", fan(32, 499), none(), -1},
		// Ends: 4000, and 4001 or 4002.
		{"Join", steepWords, made(t, "x"), 3}, {"Join", steepWords, made(t, "xx"), 4}, {"Join", steepWords, made(t, "xy"), -1}, {"Join", steepWords, made(t, "y"), 3}, {"Join", steepWords, made(t, "bbx"), -1}, {"Minus", steepWords, made(t, "xy"), 3},
	} {
		i := slices.IndexFunc(operations, func(p operation) bool { return p.what == c.what })
		got, e := operations[i].f(c.a, c.b)
		switch {
		case c.states < 0 && (e != api.ErrLong || !isNothing(got)):
			t.Errorf("%s(%.60s, %.60s): %d states, %d", c.what, show(c.a), show(c.b), len(got.Final), e)
		case c.states > 0 && (e != api.OK || len(got.Final) != c.states):
			t.Errorf("%s(%.60s, %.60s): %d states, %d, want %d", c.what, show(c.a), show(c.b), len(got.Final), e, c.states)
		}
	}
}

// P8.5: Includes and Same by hand.
func TestIncludes(t *testing.T) {
	for _, c := range []struct {
		a, b api.Auto
		// word is the first one of b that is none of a; !, which no word is here, if there is none.
		word string
	}{
		{made(t, "a*"), made(t, "[ab]*"), "b"}, {made(t, "[ab]*"), made(t, "a*"), "!"}, {made(t, "a*"), made(t, "a*"), "!"}, {made(t, "a+"), made(t, "a*"), ""}, {made(t, "a*"), made(t, "a+"), "!"}, {none(), none(), "!"}, {none(), made(t, "a"), "a"}, {made(t, "a"), none(), "!"}, {all(), made(t, ".*"), "!"}, {made(t, ".*"), all(), "\n"}, {made(t, "[^b]*"), all(), "b"}, {all(), all(), "!"}, {none(), all(), ""},
		{made(t, "(a|b)*b"), made(t, "[ab]{3}"), "aaa"}, {made(t, "[ab]*"), made(t, "[ab]*c|d"), "c"}, {made(t, "a|b|c"), made(t, "d|aa|e"), "d"}, {made(t, "(aa)*"), made(t, "(aaaa)*"), "!"}, {made(t, "(aaaa)*"), made(t, "(aa)*"), "aa"}, {made(t, "a{0,5}"), made(t, "a*"), "aaaaaa"}, {made(t, "[a-f]"), made(t, "[d-h]"), "g"}, {made(t, "[d-h]"), made(t, "[a-f]"), "a"}, {made(t, "ab|ba"), made(t, "[ab]{2}"), "aa"}, {made(t, "aa|ab|ba"), made(t, "[ab]{2}"), "bb"}, {made(t, "[^\U00010000]"), made(t, `[\s\S]`), "\U00010000"},
		{auto("a>1", "!", "!b>2"), auto("a>1 b>2", "!", "b>2"), "!"}, {auto("a>1 b>2", "!", "b>2"), auto("a>1", "!", "!b>2"), "!"}, {auto("a..b>1", "!"), auto("a>1 b>2", "!", "!"), "!"}, {auto("a>1 b>2 c>3", "!", "!b>3", "a>3"), auto("a..b>1", "!b>2", "!"), "ab"},
		{multiples(2), multiples(3), "aaa"}, {cycle(7, func(rest int) bool { return rest != 6 }), cycle(5, func(rest int) bool { return rest == 4 }), strings.Repeat("a", 34)}, {cycle(499, func(rest int) bool { return rest != 498 }), cycle(500, func(rest int) bool { return rest == 499 }), strings.Repeat("a", 249499)},
	} {
		yes, word, e := regauto.Includes(c.a, c.b)
		if want := strings.TrimPrefix(c.word, "!"); yes != (c.word == "!") || word != want || e != api.OK {
			t.Errorf("Includes(%s, %s): %v, %.100q, %d, want %.100q", show(c.a), show(c.b), yes, word, e, c.word)
		}
		back, _, _ := regauto.Includes(c.b, c.a)
		if got := regauto.Same(c.a, c.b); got != (back && c.word == "!") || got != regauto.Same(c.b, c.a) {
			t.Errorf("Same(%s, %s): %v", show(c.a), show(c.b), got)
		}
	}
}

// P8.5: random automata.
func TestIncludesRandom(t *testing.T) {
	included, equal := 0, 0
	randoms(t, 6000, func(r *rand.Rand) {
		a, b := randomAuto(r), randomAuto(r)
		if r.IntN(2) == 0 {
			b, _ = oneOf(r, pairs...).f(b, a)
		}
		want, some := firstWord([]api.Auto{a, b}, func(in []bool) bool { return in[1] && !in[0] })
		yes, word, e := regauto.Includes(a, b)
		if yes == some || word != want || e != api.OK {
			t.Errorf("Includes(%s, %s): %v, %q, %d, want %v, %q", show(a), show(b), yes, word, e, !some, want)
		}
		_, differ := firstWord([]api.Auto{a, b}, func(in []bool) bool { return in[1] != in[0] })
		if got := regauto.Same(a, b); got == differ {
			t.Errorf("Same(%s, %s): %v", show(a), show(b), got)
		}
		if yes {
			included++
		}
		if !differ {
			equal++
		}
	})
	if !t.Failed() && (included < 1200 || included > 4800 || equal < 240) {
		t.Errorf("%d are included, %d are the same", included, equal)
	}
}

// P8.7: automata have the same words exactly if their Meet with themselves is the same.
func TestSameByMeet(t *testing.T) {
	equal := 0
	randoms(t, 1000, func(r *rand.Rand) {
		a, b := randomAuto(r), randomAuto(r)
		if r.IntN(2) == 0 {
			b, _ = regauto.Meet(a, a)
		}
		meetA, e := regauto.Meet(a, a)
		meetB, f := regauto.Meet(b, b)
		_, differ := firstWord([]api.Auto{a, b}, func(in []bool) bool { return in[1] != in[0] })
		if same(meetA, meetB) == differ || e != api.OK || f != api.OK {
			t.Errorf("%s and %s: Meet with themselves %s and %s", show(a), show(b), show(meetA), show(meetB))
		}
		if !differ {
			equal++
		}
	})
	if equal < 300 {
		t.Errorf("only %d are the same", equal)
	}
}

// P8.7: the laws of sets.
func TestLawsOfSets(t *testing.T) {
	must := func(a api.Auto, e api.Errno) api.Auto {
		t.Helper()
		if e != api.OK {
			t.Fatalf("the error %d", e)
		}
		return a
	}
	join := func(a, b api.Auto) api.Auto { return must(regauto.Join(a, b)) }
	meet := func(a, b api.Auto) api.Auto { return must(regauto.Meet(a, b)) }
	minus := func(a, b api.Auto) api.Auto { return must(regauto.Minus(a, b)) }
	not := func(a api.Auto) api.Auto { return must(regauto.Not(a)) }
	randoms(t, 150, func(r *rand.Rand) {
		a, b, c := randomAuto(r), randomAuto(r), randomAuto(r)
		least := meet(a, a)
		for what, sides := range map[string][2]api.Auto{
			"a or b is b or a":                            {join(a, b), join(b, a)},
			"a and b is b and a":                          {meet(a, b), meet(b, a)},
			"or goes together as one likes":               {join(a, join(b, c)), join(join(a, b), c)},
			"and goes together as one likes":              {meet(a, meet(b, c)), meet(meet(a, b), c)},
			"a and (b or c) is a and b or a and c":        {meet(a, join(b, c)), join(meet(a, b), meet(a, c))},
			"a or (b and c) is (a or b) and (a or c)":     {join(a, meet(b, c)), meet(join(a, b), join(a, c))},
			"not (a or b) is not a and not b":             {not(join(a, b)), meet(not(a), not(b))},
			"not (a and b) is not a or not b":             {not(meet(a, b)), join(not(a), not(b))},
			"not not a is a":                              {not(not(a)), least},
			"a without b is a and not b":                  {minus(a, b), meet(a, not(b))},
			"a without b, and a and b, are a":             {join(minus(a, b), meet(a, b)), least},
			"a or a is a":                                 {join(a, a), least},
			"a without a is nothing":                      {minus(a, a), none()},
			"a or nothing is a":                           {join(a, none()), least},
			"a without nothing is a":                      {minus(a, none()), least},
			"a and nothing is nothing":                    {meet(a, none()), none()},
			"a or all is all":                             {join(a, all()), all()},
			"a and all is a":                              {meet(a, all()), least},
			"a or not a is all":                           {join(a, not(a)), all()},
			"a and not a is nothing":                      {meet(a, not(a)), none()},
			"a or (a and b) is a":                         {join(a, meet(a, b)), least},
			"a without (b or c) is a without b without c": {minus(a, join(b, c)), minus(minus(a, b), c)},
		} {
			if !same(sides[0], sides[1]) {
				t.Errorf("%s: %s and %s, for %s, %s, %s", what, show(sides[0]), show(sides[1]), show(a), show(b), show(c))
			}
		}
	})
}

// copies is an automaton with the same words as a, in which some states stand for each state of a, and some are of no use.
func copies(r *rand.Rand, a api.Auto, most int) api.Auto {
	stands := []int{0}
	for i := range a.Final {
		stands = append(stands, i)
	}
	for range r.IntN(most) {
		stands = append(stands, r.IntN(len(a.Final)))
	}
	rest := stands[1:]
	r.Shuffle(len(rest), func(i, k int) { rest[i], rest[k] = rest[k], rest[i] })
	var b api.Auto
	for _, state := range stands {
		var l []api.Step
		for _, step := range a.Steps[state] {
			for step.Low <= step.High {
				part := step
				part.High = min(step.High, step.Low+oneOf[int32](r, 0, 1, 500000))
				for part.To = r.IntN(len(stands)); stands[part.To] != step.To; {
					part.To = r.IntN(len(stands))
				}
				l = append(l, part)
				step.Low = part.High + 1
			}
		}
		b.Final = append(b.Final, a.Final[state])
		b.Steps = append(b.Steps, l)
	}
	return b
}

// P8.4: of automata with many states that are the same, the minimal one is found again.
func TestCopies(t *testing.T) {
	texts := []string{"(a|b)*b", "(a|b)*a[ab]{3}", "(ab|ba){0,9}", "[^a]*a[^b]{2,5}(xy)*", "(aab|ab{3}|c)*", "a{40}", "(a{7}|b{11})*", ".{3}a.{2}b?", `\d{1,3}(\.\d{1,3}){3}`, "(a?b){12}", ""}
	randoms(t, 200, func(r *rand.Rand) {
		want := made(t, oneOf(r, texts...))
		a := copies(r, want, 400)
		got, e := regauto.Join(a, none())
		if e != api.OK || !same(got, want) {
			t.Errorf("of %d states: %s, %d, want %s", len(a.Final), show(got), e, show(want))
		}
		if !regauto.Same(a, copies(r, want, 100)) {
			t.Errorf("of %d states: not the same", len(a.Final))
		}
	})
}
