package regauto_test

import (
	"fmt"
	"math/rand/v2"
	"slices"
	"strings"
	"testing"

	"gabarit/api"
	"gabarit/regauto"
	"gabarit/regex"
)

// The limits of expressions of which automata are made.
const (
	mostPlaces = 1000
	mostSets   = 499
)

// room is a part of a maze: a place with a set, from which one goes on to next[0]; or, without a set, where the ways to all of next part; or the end.
type room struct {
	set  []api.Range
	next []int
}

// maze is an expression, unfolded as the definition says: its rooms, of which the first one is the end, and where ways begin.
type maze struct {
	rooms []room
	begin int
}

func mazeOf(x api.Regex) *maze {
	m := &maze{rooms: make([]room, 1)}
	m.begin = m.build(x, 0)
	return m
}

// add adds a room.
func (m *maze) add(set []api.Range, next ...int) int {
	m.rooms = append(m.rooms, room{set, next})
	return len(m.rooms) - 1
}

// build adds the rooms of x, from which one goes on to a room, and returns where the ways through x begin.
func (m *maze) build(x api.Regex, next int) int {
	switch x.Kind {
	case api.RxSet:
		return m.add(x.Set, next)
	case api.RxSeq:
		for i := len(x.Args) - 1; i >= 0; i-- {
			next = m.build(x.Args[i], next)
		}
	case api.RxAlt:
		var begins []int
		for _, arg := range x.Args {
			begins = append(begins, m.build(arg, next))
		}
		return m.add(nil, begins...)
	case api.RxTimes:
		if hasSet(x) {
			return m.buildTimes(x, next)
		}
	}
	return next
}

func (m *maze) buildTimes(x api.Regex, next int) int {
	arg, must := x.Args[0], x.Low
	if x.High < 0 {
		again := m.add(nil, next)
		begin := m.build(arg, again)
		m.rooms[again].next = append(m.rooms[again].next, begin)
		if x.Low == 0 {
			return again
		}
		next, must = begin, must-1
	} else {
		end := next
		for range x.High - x.Low {
			next = m.add(nil, m.build(arg, next), end)
		}
	}
	for range must {
		next = m.build(arg, next)
	}
	return next
}

func hasSet(x api.Regex) bool { return x.Kind == api.RxSet || slices.ContainsFunc(x.Args, hasSet) }

// places is how many places the expression has.
func (m *maze) places() int {
	n := 0
	for _, r := range m.rooms {
		if r.set != nil {
			n++
		}
	}
	return n
}

// open returns the places, and perhaps the end, to which one can go from a room without reading, ascending.
func (m *maze) open(from ...int) []int {
	seen := map[int]bool{}
	var l []int
	var visit func(room int)
	visit = func(room int) {
		if seen[room] {
			return
		}
		seen[room] = true
		if room == 0 || m.rooms[room].set != nil {
			l = append(l, room)
			return
		}
		for _, next := range m.rooms[room].next {
			visit(next)
		}
	}
	for _, room := range from {
		visit(room)
	}
	slices.Sort(l)
	return l
}

// read returns those of some places at which a character can be read.
func (m *maze) read(l []int, c int32) []int {
	var at []int
	for _, place := range l {
		for _, r := range m.rooms[place].set {
			if r.Low <= c && c <= r.High {
				at = append(at, place)
			}
		}
	}
	return at
}

// behind returns where one can go from some places.
func (m *maze) behind(l []int) []int {
	var from []int
	for _, place := range l {
		from = append(from, m.rooms[place].next...)
	}
	return m.open(from...)
}

// asAuto is an automaton whose steps are those of all sets of the expression.
func (m *maze) asAuto() api.Auto {
	a := none()
	for _, r := range m.rooms {
		for _, one := range r.set {
			a.Steps[0] = append(a.Steps[0], api.Step{Low: one.Low, High: one.High})
		}
	}
	return a
}

// sets is how many different sets of places are reached, but not many more than may be.
func (m *maze) sets() int {
	characters := letters(m.asAuto())
	seen := map[string]bool{}
	open := [][]int{m.open(m.begin)}
	for i := 0; i < len(open) && len(seen) <= mostSets; i++ {
		for _, c := range characters {
			at := m.read(open[i], c)
			if key := fmt.Sprint(at); len(at) > 0 && !seen[key] {
				seen[key] = true
				open = append(open, m.behind(at))
			}
		}
	}
	return len(seen)
}

// disagrees is a word about which a is wrong; false if there is none.
func (m *maze) disagrees(a api.Auto) (string, bool) {
	type way struct {
		word  string
		state int
		open  []int
	}
	l := []way{{"", 0, m.open(m.begin)}}
	seen := map[string]bool{}
	characters := letters(a, m.asAuto())
	for i := 0; i < len(l); i++ {
		if slices.Contains(l[i].open, 0) != (l[i].state >= 0 && a.Final[l[i].state]) {
			return l[i].word, true
		}
		for _, c := range characters {
			next := way{l[i].word + string(c), goes(a, l[i].state, c), m.behind(m.read(l[i].open, c))}
			if key := fmt.Sprint(next.state, next.open); !seen[key] {
				seen[key] = true
				l = append(l, next)
			}
		}
	}
	return "", false
}

// P8.2: the examples, and other automata by hand.
func TestMake(t *testing.T) {
	for text, want := range map[string]api.Auto{
		"(a|b)*b":      auto("a>0 b>1", "!a>0 b>1"),
		"a{2,3}":       auto("a>1", "a>2", "!a>3", "!"),
		"[a-c]|b":      auto("a..c>1", "!"),
		"":             auto("!"),
		"()":           auto("!"),
		"(|){7}":       auto("!"),
		"(()*)+":       auto("!"),
		"a":            auto("a>1", "!"),
		"a?":           auto("!a>1", "!"),
		"a*":           auto("!a>0"),
		"a+":           auto("a>1", "!a>1"),
		"a{0,2}":       auto("!a>1", "!a>2", "!"),
		"a{2,}":        auto("a>1", "a>2", "!a>2"),
		"a{2}":         auto("a>1", "a>2", "!"),
		"(a*)*":        auto("!a>0"),
		"(a*)+b":       auto("a>0 b>1", "!"),
		"(a|)(b|)":     auto("!a>1 b>2", "!b>2", "!"),
		"(aa|aaa)*":    auto("!a>1", "a>2", "!a>2"),
		"ab|cb|ad":     auto("a>1 c>2", "b>3 d>3", "b>3", "!"),
		"b|a":          auto("a..b>1", "!"),
		"c|a":          auto("a>1 c>1", "!"),
		"[ac]x|bx":     auto("a..c>1", "x>2", "!"),
		"[a-c]x|by":    auto("a>1 b>2 c>1", "x>3", "x..y>3", "!"),
		"(a|b)*":       auto("!a..b>0"),
		"(a|ab)(bc|c)": auto("a>1", "b>2 c>3", "b>4 c>3", "!", "c>3"),
		"ba|ab":        auto("a>1 b>2", "b>3", "a>3", "!"),
		"z|[a-y]y":     auto("a..y>1 z>2", "y>2", "!"),
		"[^a]":         auto("#9..#10>1 #13>1 #32..#96>1 b..#55295>1 #57344..#65533>1 #65536..#1114111>1", "!"),
		".|\n|\r":      auto("#9..#10>1 #13>1 #32..#55295>1 #57344..#65533>1 #65536..#1114111>1", "!"),
		".*":           auto("!#9>0 #32..#55295>0 #57344..#65533>0 #65536..#1114111>0"),
		`[\s\S]*`:      all(),
		`[\s\S]*a?`:    all(),
		`[\s\S]*|a{7}`: all(),
	} {
		got, e := regauto.Make(parse(t, text))
		if e != api.OK || !same(got, want) {
			t.Errorf("Make of %q: %s, %d, want %s", text, show(got), e, show(want))
		}
	}
}

// P8.2, P8.8: random expressions; there are at most as many states as sets, and the first one.
func TestMakeRandom(t *testing.T) {
	states := 0
	randoms(t, 10000, func(r *rand.Rand) {
		text := randomText(r, 1+r.IntN(5))
		x := parse(t, text)
		m := mazeOf(x)
		if m.places() > 60 {
			return
		}
		a, e := regauto.Make(x)
		if m.sets() > mostSets {
			if e != api.ErrLong {
				t.Errorf("Make of %q: %d", text, e)
			}
			return
		}
		if e != api.OK {
			t.Fatalf("Make of %q: %d", text, e)
		}
		states += len(a.Final)
		if len(a.Final) > 1+m.sets() {
			t.Errorf("Make of %q: %d states, but %d sets", text, len(a.Final), m.sets())
		}
		if len(a.Final) > 60 {
			return
		}
		if flaw := flawOf(a); flaw != "" {
			t.Errorf("Make of %q: %s: %s", text, show(a), flaw)
		}
		if word, wrong := m.disagrees(a); wrong {
			t.Errorf("Make of %q: %s is wrong about %q", text, show(a), word)
		}
	})
	if !t.Failed() && states < 25000 {
		t.Errorf("only %d states", states)
	}
}

// alternatives is n times the same text, as alternatives.
func alternatives(n int, text string) string {
	return "(" + strings.TrimSuffix(strings.Repeat(text+"|", n), "|") + ")"
}

// P8.2: ErrLong for more than 1000 places.
func TestMakePlaces(t *testing.T) {
	half, whole := alternatives(20, "a{25}"), alternatives(20, "a{50}")
	empty := strings.Repeat("(", 18) + "()"
	for text, want := range map[string]int{
		whole: 51, half + half: 51, whole + "()": 51, whole + "?": 51, whole + "*": 50, whole + "+": 51, "(" + whole + "){1}": 51, "(" + whole + "){0,1}": 51, "(" + whole + "){1,}": 51, "(" + whole + "){0,}": 50,
		"(" + half + "){2}": 51, "(" + half + "){2,}": 51, "(" + half + "){0,2}": 51, "(" + half + "){1,2}": 51, whole + "(){50}((){50}){50}": 51, "(" + whole + "(){50}){1}": 51,
		alternatives(40, "a{12,25}"): 26, alternatives(40, "(a?){25}"): 26,
		whole + "a": -1, "a|" + whole: -1, whole + "a?": -1, half + half + "a{0,1}": -1, "(" + half + "){3}": -1, "(" + half + "){2,3}": -1, "(" + half + "){0,3}": -1, "(" + half + "){3,}": -1, "(" + whole + "){2}": -1, "(" + whole + "){0,2}": -1, "(" + whole + "){2,}": -1, "(" + whole + "){50}": -1,
		strings.Repeat("(", 18) + "a" + strings.Repeat("{50})", 18): -1, strings.Repeat("(", 10) + "a" + strings.Repeat("{2})", 10): -1, strings.Repeat("(", 11) + "a" + strings.Repeat("{0,50})", 11): -1, strings.Repeat("(", 18) + "a" + strings.Repeat("{50,})", 18): -1,
		empty + strings.Repeat("{50})", 18): 1, empty + strings.Repeat("{50,})", 18): 1, empty + strings.Repeat("{0,50})", 18) + "a": 2, strings.Repeat("(", 18) + "a" + strings.Repeat("{1})", 18): 2, "(((" + strings.Repeat("()", 180) + "){50}){50}){50}": 1, "(a(((|){50}){50}){50}){50}": 51,
	} {
		a, e := regauto.Make(parse(t, text))
		switch {
		case want < 0 && (e != api.ErrLong || !isNothing(a)):
			t.Errorf("Make of %.100q: %d states, %d", text, len(a.Final), e)
		case want > 0 && (e != api.OK || len(a.Final) != want):
			t.Errorf("Make of %.100q: %d states, %d, want %d", text, len(a.Final), e, want)
		}
	}
}

// P8.2: ErrLong for more than 499 sets of places, however few states would be left.
func TestMakeSets(t *testing.T) {
	for text, want := range map[string]int{
		"(a{49}){10}a{9}": 500, "(a{49}){10}a{9}|": 500, "(a{50}){10}": -1, "(a{49}){10}a{9}b": -1, "(a{49}){10}a{8}b": 500, "(a{49}){10}a{8}b?": 500, "(a?){50}": 51, "((a?){49}){10}(a?){9}": 500, "((a?){50}){10}": -1, "(a{49}){10}a{8}a*": 499, "(a{49}){10}a{9}a*": -1, "(a{49}){10}a{7}a+": 499, "(a{49}){10}a{8}a+": 500,
		"[ab]*a[ab]{7}": 256, "[ab]*a[ab]{8}": -1, "[ab]*a[ab]{7}|[ab]*": 1, "[ab]*a[ab]{8}|[ab]*": -1, "[ab]*|[ab]*a[ab]{7}": 1, "(a|b)*a[ab]{6}": 128, "(a|b)*a[ab]{7}": 256, "(a|b)*a[ab]{7}|(a|b)*": 1, "(a|b)*a[ab]{8}|(a|b)*": -1,
	} {
		x := parse(t, text)
		if sets := mazeOf(x).sets(); (sets > mostSets) != (want < 0) {
			t.Errorf("%q has %d sets", text, sets)
		}
		a, e := regauto.Make(x)
		switch {
		case want < 0 && (e != api.ErrLong || !isNothing(a)):
			t.Errorf("Make of %q: %d states, %d", text, len(a.Final), e)
		case want > 0 && (e != api.OK || len(a.Final) != want):
			t.Errorf("Make of %q: %d states, %d, want %d", text, len(a.Final), e, want)
		}
	}
}

// P8.2: where repetitions of many kinds come to more than 499 sets.
func TestMakeUnfolded(t *testing.T) {
	inside := []string{"[ab]*a[ab]{3}", "[ab]*a[ab]?b", "(a|ab|ba)", "a?b?[ab]{2}", "(a*b|ba)", "((ab?)+|b)a", "(a|b{2,3})*ab"}
	around := []func(x string, n int) string{
		func(x string, n int) string { return fmt.Sprintf("(%s){0,%d}", x, n) },
		func(x string, n int) string { return fmt.Sprintf("(%s){%d,%d}", x, n/2, n) },
		func(x string, n int) string { return fmt.Sprintf("(%s){%d,}", x, n) },
		func(x string, n int) string { return fmt.Sprintf("(%s){%d,}c", x, n) },
		func(x string, n int) string { return fmt.Sprintf("((%s){%d}|a{%d})+", x, n, n) },
		func(x string, n int) string { return fmt.Sprintf("((%s){2,}){0,%d}", x, n) },
	}
	long, short := 0, 0
	for _, x := range inside {
		for _, f := range around {
			for n := 2; n <= 50; n += 3 {
				text := f(x, n)
				m := mazeOf(parse(t, text))
				want := api.OK
				if m.places() > mostPlaces || m.sets() > mostSets {
					want = api.ErrLong
				}
				if _, e := regauto.Make(parse(t, text)); e != want {
					t.Errorf("Make of %q: %d, want %d", text, e, want)
				}
				if want == api.OK {
					short++
				} else {
					long++
				}
			}
		}
	}
	if long < 50 || short < 50 {
		t.Errorf("%d are too long, %d are not", long, short)
	}
}

// setText is the text of a set of n characters, from one on, with gaps.
func setText(from, n int) string {
	var text strings.Builder
	text.WriteByte('[')
	for i := range n {
		text.WriteRune(rune(from + 2*i))
	}
	text.WriteByte(']')
	return text.String()
}

// sets is texts of n characters, from one on, with gaps, in sets of at most 200.
func sets(from, n int) []string {
	var l []string
	for ; n > 0; n -= 200 {
		l = append(l, setText(from, min(n, 200)))
		from += 400
	}
	return l
}

// P8.2: ErrLong for sets with more than 4000 ends, and for states with more than 1000 steps.
func TestMakeEnds(t *testing.T) {
	most := strings.Join(sets(1000, 2000), "")
	for text, want := range map[string]int{
		most: 11, most + strings.Join(sets(1000, 2000), ""): 21, most + "[\u03e8-\u03e9]": 12, most + "[\u03e8-\u1386]": 12, most + `[\s\S]`: 12, most + "[\ue000-\ufffd]": 12, most + "[\U00010000-\U0010ffff]\r": 13, most + "[\t\n]": 12, most + "[ -\u03e8]": 12, most + "(){50}": 11,
		most + "\u1388": -1, most + "\u03e6": -1, most + "\u1390": -1, most + "[\u03e8-\u1387]": -1, most + "é": -1, most + `\n`: -1, most + `\t`: -1, most + " ": -1, most + ".": -1, most + "\ud7ff": -1, most + "\ue000": -1, most + "\ufffd": -1, most + "[a\u03e8]": -1, most + "(b|)": -1, most + "b*": -1,
		strings.Join(sets(1000, 1000), "|"): 2, strings.Join(sets(1000, 1001), "|"): -1, strings.Join(sets(1000, 900), "|") + "|" + setText(2801, 100): 2, "x(" + strings.Join(sets(1000, 1001), "|") + ")": -1, "(" + strings.Join(sets(1000, 600), "|") + ")(" + strings.Join(sets(1000, 600), "|") + ")": 3,
		strings.Join(sets(1000, 1001), "|") + "|[\u07ce-\u07d2]": 2, strings.Join(sets(1000, 1001), "|") + `|[\s\S]`: 2, strings.Join(sets(1000, 1001), "|") + "|[\u03e8-\u1387]": 2,
		// However few steps are left.
		`[\s\S]|` + strings.Join(sets(1000, 2000), "|"): 2, `[\s\S]|` + strings.Join(sets(1000, 2001), "|"): -1, `[\s\S]*|b|` + strings.Join(sets(1000, 1999), "|"): 1, `[\s\S]*|[bd]|` + strings.Join(sets(1000, 1999), "|"): -1, `[\s\S]*|[b-d]|` + strings.Join(sets(1000, 2000), "|"): -1, `[\s\S]*|\n|` + strings.Join(sets(1000, 2000), "|"): -1,
	} {
		a, e := regauto.Make(parse(t, text))
		switch {
		case want < 0 && (e != api.ErrLong || !isNothing(a)):
			t.Errorf("Make of %.20q.. (%d bytes): %d states, %d", text, len(text), len(a.Final), e)
		case want > 0 && (e != api.OK || len(a.Final) != want):
			t.Errorf("Make of %.20q.. (%d bytes): %d states, %d, want %d", text, len(text), len(a.Final), e, want)
		}
	}
	a := made(t, strings.Join(sets(1000, 1000), "|"))
	if !same(a, fan(1000, 1000)) {
		t.Errorf("Make of 1000 characters: %s", show(a))
	}
}

// P8.2: the error of regex.Check comes first.
func TestMakeErrors(t *testing.T) {
	itself := api.Regex{Kind: api.RxTimes, High: 1, Args: make([]api.Regex, 1)}
	itself.Args[0] = itself
	a := api.Regex{Kind: api.RxSet, Set: []api.Range{{Low: 'a', High: 'a'}}}
	many := api.Regex{Kind: api.RxTimes, Low: 50, High: 50, Args: []api.Regex{{Kind: api.RxTimes, Low: 50, High: 50, Args: []api.Regex{a}}}}
	for i, x := range []api.Regex{
		{}, {Kind: 6}, {Kind: api.RxSet}, {Kind: api.RxSeq}, {Kind: api.RxAlt, Args: []api.Regex{a}}, {Kind: api.RxTimes, Low: 2, High: 1, Args: []api.Regex{a}}, {Kind: api.RxTimes, High: 0, Args: []api.Regex{a}}, {Kind: api.RxTimes, Low: 51, High: 51, Args: []api.Regex{a}}, {Kind: api.RxEmpty, Low: 1}, {Kind: api.RxSet, Set: []api.Range{{Low: 'b', High: 'a'}}}, {Kind: api.RxSet, Set: []api.Range{{Low: 'a', High: 'a'}, {Low: 'b', High: 'b'}}}, {Kind: api.RxSet, Set: []api.Range{{Low: 9, High: 13}}},
		{Kind: api.RxSeq, Args: []api.Regex{many, {}}}, {Kind: api.RxAlt, Args: []api.Regex{many, {Kind: api.RxTimes, Low: -1, High: 1, Args: []api.Regex{a}}}},
		itself, {Kind: api.RxSeq, Args: slices.Repeat([]api.Regex{a}, 200)}, {Kind: api.RxSeq, Args: make([]api.Regex, 100000)}, {Kind: api.RxSeq, Args: []api.Regex{itself, {}}},
	} {
		want := regex.Check(x)
		if got, e := regauto.Make(x); want == api.OK || e != want || !isNothing(got) {
			t.Errorf("Make of the expression %d: %d, want %d", i, e, want)
		}
	}
	if got, e := regauto.Make(many); e != api.ErrLong || !isNothing(got) {
		t.Errorf("Make of an expression with many places: %d", e)
	}
}

// P8.7: Run of Make says what regex.Match says.
func TestRunOfMake(t *testing.T) {
	yes, no := 0, 0
	randoms(t, 1500, func(r *rand.Rand) {
		text := randomText(r, 1+r.IntN(4))
		x := parse(t, text)
		a, e := regauto.Make(x)
		if e == api.ErrLong {
			return
		}
		words, _ := regauto.Words(a, 20)
		for range 10 {
			word := ""
			for range r.IntN(7) {
				word += oneOf(r, "a", "b", "c", "a", "b", "d", "0", "\n", "\ue000", "\U0010ffff")
			}
			words = append(words, word)
		}
		for _, word := range words {
			want, e := regex.Match(x, word)
			got, f := regauto.Run(a, word)
			if got != want || e != api.OK || f != api.OK {
				t.Errorf("%q, %q: Run says %v, %d, Match %v, %d", text, word, got, f, want, e)
			}
			if want {
				yes++
			} else {
				no++
			}
		}
	})
	if !t.Failed() && (yes < 3000 || no < 3000) {
		t.Errorf("%d words match, %d do not", yes, no)
	}
}
