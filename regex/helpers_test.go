package regex_test

import (
	"math/rand/v2"
	"reflect"
	"slices"
	"strings"
	"testing"

	"gabarit/api"
	"gabarit/regex"
)

// The limits of small expressions.
const (
	mostParts  = 200
	mostDeep   = 20
	mostRanges = 200
	mostTimes  = 50
)

// set is the ranges with these ends: from, to, from, to, and so on.
func set(ends ...int32) []api.Range {
	var l []api.Range
	for i := 0; i < len(ends); i += 2 {
		l = append(l, api.Range{Low: ends[i], High: ends[i+1]})
	}
	return l
}

// empty, of, char, seq, alt and times are expressions.
func empty() api.Regex { return api.Regex{Kind: api.RxEmpty} }

func of(ends ...int32) api.Regex { return api.Regex{Kind: api.RxSet, Set: set(ends...)} }

func char(c int32) api.Regex { return of(c, c) }

func seq(l ...api.Regex) api.Regex { return api.Regex{Kind: api.RxSeq, Args: l} }

func alt(l ...api.Regex) api.Regex { return api.Regex{Kind: api.RxAlt, Args: l} }

func times(low, high int, x api.Regex) api.Regex {
	return api.Regex{Kind: api.RxTimes, Args: []api.Regex{x}, Low: low, High: high}
}

// many is n times the same expression.
func many(n int, x api.Regex) []api.Regex { return slices.Repeat([]api.Regex{x}, n) }

// nested is an expression that is n deep.
func nested(n int, around func(x api.Regex) api.Regex) api.Regex {
	x := char('a')
	for range n - 1 {
		x = around(x)
	}
	return x
}

// gaps is a set of n ranges.
func gaps(n int) []api.Range {
	var l []api.Range
	for i := range int32(n) {
		l = append(l, api.Range{Low: 100 + 2*i, High: 100 + 2*i})
	}
	return l
}

// blocks is where the numbers of characters begin and end.
var blocks = [][2]int32{{9, 10}, {13, 13}, {32, 55295}, {57344, 65533}, {65536, 1114111}}

// isCharacter tells straight from the definition whether c is a character.
func isCharacter(c int32) bool {
	return c == 9 || c == 10 || c == 13 || c >= 32 && c <= 55295 || c >= 57344 && c <= 65533 || c >= 65536 && c <= 1114111
}

// in tells straight from the definition whether c is in one of the ranges of l.
func in(l []api.Range, c int32) bool {
	for _, r := range l {
		if r.Low <= c && c <= r.High {
			return true
		}
	}
	return false
}

// isSet tells straight from the definition whether l is a set of characters.
func isSet(l []api.Range) bool {
	for i, r := range l {
		if r.Low > r.High || r.Low < 0 || r.High > 1114111 {
			return false
		}
		for c := r.Low; c <= r.High; c++ {
			if !isCharacter(c) {
				return false
			}
		}
		if i > 0 && r.Low-l[i-1].High < 2 {
			return false
		}
	}
	return true
}

// setWith is the set of the characters that are wanted, if what is wanted changes at these numbers alone, and where blocks begin and end.
func setWith(changes []int32, wanted func(c int32) bool) []api.Range {
	for _, b := range blocks {
		changes = append(changes, b[0], b[1]+1)
	}
	changes = slices.Compact(slices.Sorted(slices.Values(changes)))
	var l []api.Range
	for i, c := range changes {
		if !isCharacter(c) || !wanted(c) {
			continue
		}
		last := changes[i+1] - 1
		if len(l) > 0 && l[len(l)-1].High == c-1 {
			l[len(l)-1].High = last
		} else {
			l = append(l, api.Range{Low: c, High: last})
		}
	}
	return l
}

// changesOf is where the ranges of l begin and have ended.
func changesOf(l []api.Range) []int32 {
	var changes []int32
	for _, r := range l {
		changes = append(changes, r.Low, r.High+1)
	}
	return changes
}

// each calls visit with x and all expressions in it, and how deep they are.
func each(x api.Regex, deep int, visit func(x api.Regex, deep int)) {
	visit(x, deep)
	for _, arg := range x.Args {
		each(arg, deep+1, visit)
	}
}

// isSmall tells straight from the definition whether x, which does not contain itself, is small.
func isSmall(x api.Regex) bool {
	parts, ok := 0, true
	each(x, 1, func(x api.Regex, deep int) {
		parts++
		ok = ok && deep <= mostDeep && len(x.Set) <= mostRanges
	})
	return ok && parts <= mostParts
}

// isValid tells straight from the definition whether x is as the table says.
func isValid(x api.Regex) bool {
	ok := true
	each(x, 1, func(x api.Regex, _ int) {
		used := map[string]bool{}
		switch x.Kind {
		case api.RxEmpty:
		case api.RxSet:
			used["Set"] = true
			ok = ok && len(x.Set) >= 1 && isSet(x.Set)
		case api.RxSeq, api.RxAlt:
			used["Args"] = true
			ok = ok && len(x.Args) >= 2
		case api.RxTimes:
			used["Args"], used["Low"], used["High"] = true, true, true
			ok = ok && len(x.Args) == 1 && x.Low >= 0 && x.Low <= mostTimes
			ok = ok && (x.High == -1 || x.High >= x.Low && x.High <= mostTimes && x.High >= 1)
		default:
			ok = false
		}
		ok = ok && (used["Set"] || len(x.Set) == 0) && (used["Args"] || len(x.Args) == 0)
		ok = ok && (used["Low"] || x.Low == 0) && (used["High"] || x.High == 0)
	})
	return ok
}

// nils is x with nil where lists are empty.
func nils(x api.Regex) api.Regex {
	x.Set = append([]api.Range(nil), x.Set...)
	args := x.Args
	x.Args = nil
	for _, arg := range args {
		x.Args = append(x.Args, nils(arg))
	}
	return x
}

// same reports whether two expressions are equal; a nil list and an empty one are.
func same(a, b api.Regex) bool { return reflect.DeepEqual(nils(a), nils(b)) }

// spoil overwrites all memory that x holds, up to the capacities of its lists.
func spoil(x api.Regex) {
	spoilSet(x.Set)
	for _, arg := range x.Args {
		spoil(arg)
	}
	args := x.Args[:cap(x.Args)]
	for i := range args {
		args[i] = api.Regex{Kind: 99}
	}
}

func spoilSet(l []api.Range) {
	l = l[:cap(l)]
	for i := range l {
		l[i] = api.Range{Low: -7, High: -8}
	}
}

// isNothing reports whether x is the zero value.
func isNothing(x api.Regex) bool {
	return x.Kind == 0 && len(x.Set) == 0 && len(x.Args) == 0 && x.Low == 0 && x.High == 0
}

// print is the canonical text of a valid expression.
func print(t *testing.T, x api.Regex) string {
	t.Helper()
	text, e := regex.Print(x)
	if e != api.OK {
		t.Fatalf("Print(%.300v): %d", x, e)
	}
	return text
}

// parse is the expression of a text that has one.
func parse(t *testing.T, text string) api.Regex {
	t.Helper()
	x, at, e := regex.Parse(text)
	if e != api.OK || at != 0 {
		t.Fatalf("Parse(%.300q): %d at %d", text, e, at)
	}
	return x
}

// randoms calls try with a source of chance that is always the same.
func randoms(t *testing.T, times int, try func(r *rand.Rand)) {
	t.Helper()
	r := rand.New(rand.NewPCG(1, 2))
	for range times {
		try(r)
		if t.Failed() {
			return
		}
	}
}

// oneOf is one of these.
func oneOf[T any](r *rand.Rand, l ...T) T { return l[r.IntN(len(l))] }

// someCharacters are those of random sets: where blocks begin and end, those with a meaning, and others.
var someCharacters = []int32{9, 10, 13, 32, 33, 55294, 55295, 57344, 57345, 65532, 65533, 65536, 65537, 1114110, 1114111, '0', '5', '9', 'a', 'b', 'c', 'n', 'd', 'z', 'A', 'Z', '_', '.', '\\', '?', '*', '+', '{', '}', '(', ')', '[', ']', '|', '-', '^', ',', 126, 127, 128, 228, 2047, 2048, 8364, 128512}

// randomSet is a set with a few ranges, at times with none.
func randomSet(r *rand.Rand) []api.Range {
	var ranges []api.Range
	for range r.IntN(5) {
		low := oneOf(r, someCharacters...)
		high := low + oneOf[int32](r, 0, 0, 1, 2, 30)
		if r.IntN(4) == 0 {
			high = max(low, oneOf(r, someCharacters...))
		}
		ranges = append(ranges, api.Range{Low: low, High: min(high, 1114111)})
	}
	return setWith(changesOf(ranges), func(c int32) bool { return in(ranges, c) })
}

// randomRegex is a valid, small expression; its repetitions are at most so many.
func randomRegex(r *rand.Rand, deep, most int) api.Regex {
	kind := r.IntN(9)
	if deep <= 1 {
		kind = r.IntN(4)
	}
	switch kind {
	case 0:
		return empty()
	case 1:
		x := api.Regex{Kind: api.RxSet, Set: randomSet(r)}
		if len(x.Set) > 0 {
			return x
		}
		fallthrough
	case 2, 3:
		return char(oneOf(r, someCharacters...))
	case 4, 5:
		return seq(randomArgs(r, deep, most)...)
	case 6:
		return alt(randomArgs(r, deep, most)...)
	}
	low := oneOf(r, 0, 0, 1, r.IntN(most+1))
	high := oneOf(r, -1, low, max(low, 1), low+r.IntN(most-low+1))
	if high == 0 {
		high = 1
	}
	return times(low, high, randomRegex(r, deep-1, most))
}

func randomArgs(r *rand.Rand, deep, most int) []api.Regex {
	var l []api.Regex
	for range 2 + r.IntN(3) {
		l = append(l, randomRegex(r, deep-1, most))
	}
	return l
}

// notValid are small expressions that are not as the table says.
func notValid() []api.Regex {
	a := char('a')
	l := []api.Regex{{}, {Kind: 6}, {Kind: -1}, {Kind: 1 << 40}, {Kind: api.RxSet}, {Kind: api.RxSet, Set: []api.Range{}}, {Kind: api.RxSeq}, {Kind: api.RxAlt}, {Kind: api.RxTimes, Low: 1, High: 1}, seq(a), alt(a), seq(), alt()}
	for _, ends := range noSets {
		l = append(l, of(ends...))
	}
	for _, x := range [][2]int{{0, 0}, {-1, -1}, {-1, 1}, {0, -2}, {1, 0}, {2, 1}, {50, 49}, {51, 51}, {51, -1}, {0, 51}, {50, 51}, {1 << 62, 1 << 62}, {1 << 62, -1}, {-1 << 63, 5}, {0, -1 << 63}, {0, 1<<63 - 1}} {
		l = append(l, times(x[0], x[1], a))
	}
	for _, kind := range []int{api.RxEmpty, api.RxSet, api.RxSeq, api.RxAlt, api.RxTimes} {
		l = append(l, api.Regex{Kind: kind, Set: set('a', 'a'), Args: []api.Regex{a, a}, Low: 1, High: 1}, api.Regex{Kind: kind, Low: 1, High: -1})
	}
	for _, change := range []func(x *api.Regex){
		func(x *api.Regex) { x.Low = 1 }, func(x *api.Regex) { x.High = 1 }, func(x *api.Regex) { x.High = -1 }, func(x *api.Regex) { x.Low = -1 },
	} {
		for _, x := range []api.Regex{empty(), a, seq(a, a), alt(a, a)} {
			change(&x)
			l = append(l, x)
		}
	}
	for _, x := range []api.Regex{empty(), seq(a, a), alt(a, a), times(0, 1, a)} {
		x.Set = set('a', 'b')
		l = append(l, x)
	}
	for _, x := range []api.Regex{empty(), a, times(0, 1, a)} {
		x.Args = append(x.Args, a)
		l = append(l, x)
	}
	for _, x := range l[:9] {
		l = append(l, seq(a, x), alt(a, seq(a, a), x), times(1, -1, alt(x, a)))
	}
	return l
}

// noSets are lists of ranges, by their ends, that are no sets.
var noSets = [][]int32{
	{'b', 'a'}, {8, 8}, {8, 9}, {9, 11}, {9, 13}, {11, 11}, {12, 13}, {13, 14}, {14, 14}, {31, 31}, {31, 32}, {13, 32}, {0, 0}, {-1, -1}, {-1, 'a'}, {-1 << 31, 1<<31 - 1}, {1<<31 - 1, 1<<31 - 1}, {1 << 30, -1 << 31},
	{55295, 55296}, {55296, 55296}, {57343, 57343}, {57343, 57344}, {32, 57344}, {55295, 57344}, {65533, 65534}, {65534, 65534}, {65535, 65535}, {65535, 65536}, {65533, 65536}, {1114111, 1114112}, {1114112, 1114112}, {9, 1114111},
	{'a', 'a', 'b', 'b'}, {'a', 'b', 'c', 'd'}, {'a', 'a', 'a', 'a'}, {'a', 'c', 'b', 'd'}, {'a', 'z', 'c', 'd'}, {'c', 'c', 'a', 'a'}, {'x', 'z', 'a', 'c'}, {9, 9, 10, 10}, {32, 32, 9, 9}, {'a', 'a', 'c', 'b'}, {'a', 'a', 'c', 'c', 'd', 'd'}, {9, 10, 32, 55295, 57344, 65534}, {'a', 'a', -5, -5}, {'a', 1<<31 - 1, -1 << 31, 'z'},
}

// large are expressions that are not small; some of them are not as the table says, and some contain themselves.
func large() []api.Regex {
	a := char('a')
	again := func(x api.Regex) api.Regex { return times(0, 1, x) }
	branch := func(x api.Regex) api.Regex { return seq(a, x) }
	l := []api.Regex{
		seq(many(200, a)...), alt(many(200, a)...), alt(many(100000, a)...), times(1, 1, seq(many(199, a)...)), seq(seq(many(100, a)...), seq(many(98, a)...)),
		nested(21, again), nested(100000, again), nested(21, branch), seq(a, a, nested(20, again)), alt(nested(20, branch), a), {Kind: api.RxSet, Set: gaps(201)}, {Kind: api.RxSet, Set: gaps(20000)}, seq(a, times(0, 1, api.Regex{Kind: api.RxSet, Set: gaps(201)})),
		{Kind: api.RxEmpty, Set: gaps(201)}, {Set: gaps(201)}, {Kind: 9, Args: many(200, a)}, {Kind: api.RxTimes, Args: many(200, a), Low: -5}, {Kind: api.RxSeq, Args: make([]api.Regex, 200)}, {Kind: api.RxSet, Set: make([]api.Range, 201)}, {Args: []api.Regex{nested(20, again)}}, seq(api.Regex{}, nested(20, again)), alt(append(many(200, a), api.Regex{})...),
	}
	return append(l, selfish()...)
}

// selfish are expressions that contain themselves, and one that contains others very often.
func selfish() []api.Regex {
	one := times(0, 1, empty())
	one.Args[0] = one
	two := seq(empty(), char('a'))
	two.Args[0] = two
	wide := seq(many(1000, char('a'))...)
	for i := range wide.Args {
		wide.Args[i] = wide
	}
	often := char('a')
	for range 19 {
		often = alt(many(190, often)...)
	}
	return []api.Regex{one, two, wide, often}
}

// manyRanges is a text of a set with n ranges of one character.
func manyRanges(n int) string {
	var b strings.Builder
	b.WriteByte('[')
	for i := range n {
		b.WriteRune(rune(2048 + 2*i))
	}
	b.WriteByte(']')
	return b.String()
}
