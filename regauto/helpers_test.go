package regauto_test

import (
	"fmt"
	"math/rand/v2"
	"slices"
	"strconv"
	"strings"
	"testing"

	"gabarit/api"
	"gabarit/regauto"
	"gabarit/regex"
)

// The limits of automata.
const (
	mostStates = 500
	mostSteps  = 1000
	mostEnds   = 4000
)

// auto is the automaton with these states: a ! if it is final, then its steps with blanks between them, as a>1, a..c>1 or #9..#10>1.
func auto(states ...string) api.Auto {
	var a api.Auto
	for _, state := range states {
		rest, final := strings.CutPrefix(state, "!")
		a.Final = append(a.Final, final)
		a.Steps = append(a.Steps, steps(rest))
	}
	return a
}

func steps(text string) []api.Step {
	var l []api.Step
	for _, word := range strings.Fields(text) {
		characters, to, _ := strings.Cut(word, ">")
		low, high, isRange := strings.Cut(characters, "..")
		if !isRange {
			high = low
		}
		state, err := strconv.Atoi(to)
		if err != nil {
			panic(err)
		}
		l = append(l, api.Step{Low: number(low), High: number(high), To: state})
	}
	return l
}

// number is the number of a character that is written as itself, or behind a #.
func number(text string) int32 {
	if digits, ok := strings.CutPrefix(text, "#"); ok {
		n, err := strconv.ParseInt(digits, 10, 32)
		if err != nil {
			panic(err)
		}
		return int32(n)
	}
	return []rune(text)[0]
}

// show is the text of an automaton from which auto makes it, cut if it is long.
func show(a api.Auto) string {
	if len(a.Steps) != len(a.Final) {
		return fmt.Sprintf("%d states and %d lists of steps", len(a.Final), len(a.Steps))
	}
	var text strings.Builder
	for i, final := range a.Final {
		if i > 0 {
			text.WriteString(" / ")
		}
		if final {
			text.WriteString("!")
		}
		for _, step := range a.Steps[i] {
			fmt.Fprintf(&text, " %s..%s>%d", character(step.Low), character(step.High), step.To)
		}
	}
	return fmt.Sprintf("%.400s", text.String())
}

func character(c int32) string {
	if c >= 'a' && c <= 'z' {
		return string(c)
	}
	return "#" + strconv.Itoa(int(c))
}

// same reports whether two automata are equal; a nil list and an empty one are.
func same(a, b api.Auto) bool {
	return slices.Equal(a.Final, b.Final) && slices.EqualFunc(a.Steps, b.Steps, slices.Equal)
}

// isNothing reports whether a is the zero value.
func isNothing(a api.Auto) bool { return len(a.Final) == 0 && len(a.Steps) == 0 }

// chain is the automaton of the word of n letters a.
func chain(n int) api.Auto {
	var a api.Auto
	for i := range n + 1 {
		a.Final = append(a.Final, i == n)
		a.Steps = append(a.Steps, nil)
		if i < n {
			a.Steps[i] = steps("a>" + strconv.Itoa(i+1))
		}
	}
	return a
}

// cycle is an automaton of words of letters a, by the rest that their length leaves when it is divided by n.
func cycle(n int, final func(rest int) bool) api.Auto {
	var a api.Auto
	for i := range n {
		a.Final = append(a.Final, final(i))
		a.Steps = append(a.Steps, steps("a>"+strconv.Itoa((i+1)%n)))
	}
	return a
}

// multiples is the automaton of the words of letters a whose length is a multiple of n.
func multiples(n int) api.Auto { return cycle(n, func(rest int) bool { return rest == 0 }) }

// padded is a with so many more states, which no word reaches.
func padded(a api.Auto, more int) api.Auto {
	return api.Auto{Final: append(slices.Clone(a.Final), make([]bool, more)...), Steps: append(slices.Clone(a.Steps), make([][]api.Step, more)...)}
}

// singles are n steps of one character each, with a gap behind each, from a character on.
func singles(from int32, n, to int) []api.Step {
	var l []api.Step
	for i := range int32(n) {
		l = append(l, api.Step{Low: from + 2*i, High: from + 2*i, To: to})
	}
	return l
}

// fan is the automaton of n words of one character, from a character on, each with a gap behind it.
func fan(from int32, n int) api.Auto {
	return api.Auto{Final: []bool{false, true}, Steps: [][]api.Step{singles(from, n, 1), nil}}
}

// none is the automaton without words, and all that of all words of characters.
func none() api.Auto { return auto("") }

func all() api.Auto {
	return auto("!#9..#10>0 #13..#13>0 #32..#55295>0 #57344..#65533>0 #65536..#1114111>0")
}

// isCharacter tells straight from the definition whether c is a character.
func isCharacter(c int32) bool {
	return c == 9 || c == 10 || c == 13 || c >= 32 && c <= 55295 || c >= 57344 && c <= 65533 || c >= 65536 && c <= 1114111
}

// areCharacters tells whether low is at most high, and all numbers between them are characters: those that are none fill the gaps.
func areCharacters(low, high int32) bool {
	for _, gap := range [][2]int32{{11, 12}, {14, 31}, {55296, 57343}, {65534, 65535}} {
		if low < gap[0] && high > gap[1] {
			return false
		}
	}
	return low <= high && isCharacter(low) && isCharacter(high)
}

// endsOf are the different ends of some automata, straight from the definition.
func endsOf(l ...api.Auto) map[int64]bool {
	ends := map[int64]bool{}
	for _, a := range l {
		for _, steps := range a.Steps {
			for _, step := range steps {
				ends[int64(step.Low)], ends[int64(step.High)+1] = true, true
			}
		}
	}
	for _, n := range []int64{9, 11, 13, 14, 32, 55296, 57344, 65534, 65536, 1114112} {
		delete(ends, n)
	}
	return ends
}

// isLarge tells straight from the definition whether Check must return ErrLong.
func isLarge(a api.Auto) bool {
	for _, steps := range a.Steps {
		if len(steps) > mostSteps {
			return true
		}
	}
	return len(a.Final) > mostStates || len(endsOf(a)) > mostEnds
}

// isValid tells straight from the definition whether a, which is not large, is valid.
func isValid(a api.Auto) bool {
	if len(a.Final) < 1 || len(a.Final) != len(a.Steps) {
		return false
	}
	for _, steps := range a.Steps {
		end := int32(-1)
		for _, step := range steps {
			if !areCharacters(step.Low, step.High) || step.Low <= end || step.To < 0 || step.To >= len(a.Final) {
				return false
			}
			end = step.High
		}
	}
	return true
}

// goes is where a goes from a state by a character; -1: nowhere.
func goes(a api.Auto, state int, c int32) int {
	if state >= 0 {
		for _, step := range a.Steps[state] {
			if step.Low <= c && c <= step.High {
				return step.To
			}
		}
	}
	return -1
}

// has tells straight from the definition whether a word is one of a.
func has(a api.Auto, word string) bool {
	state := 0
	for _, c := range word {
		state = goes(a, state, c)
	}
	return state >= 0 && a.Final[state]
}

// letters are the lowest ones of the characters that some automata do not tell apart, ascending.
func letters(l ...api.Auto) []int32 {
	found := []int32{9, 13, 32, 57344, 65536}
	for end := range endsOf(l...) {
		if isCharacter(int32(end)) {
			found = append(found, int32(end))
		}
	}
	slices.Sort(found)
	return slices.Compact(found)
}

// walk calls visit with the first word that leads to each list of states, one of each automaton of l, in the order of words, and whether it is a word of each; until visit returns false.
func walk(l []api.Auto, visit func(word string, in []bool) bool) {
	type way struct {
		word string
		at   []int
	}
	open := []way{{"", make([]int, len(l))}}
	seen := map[string]bool{fmt.Sprint(open[0].at): true}
	characters := letters(l...)
	for i := 0; i < len(open); i++ {
		in := make([]bool, len(l))
		for k, state := range open[i].at {
			in[k] = state >= 0 && l[k].Final[state]
		}
		if !visit(open[i].word, in) {
			return
		}
		for _, c := range characters {
			at := make([]int, len(l))
			for k, state := range open[i].at {
				at[k] = goes(l[k], state, c)
			}
			if key := fmt.Sprint(at); !seen[key] {
				seen[key] = true
				open = append(open, way{open[i].word + string(c), at})
			}
		}
	}
}

// firstWord is the first word that is wanted, by whether the automata of l have it; false if there is none.
func firstWord(l []api.Auto, wanted func(in []bool) bool) (string, bool) {
	first, found := "", false
	walk(l, func(word string, in []bool) bool {
		if wanted(in) {
			first, found = word, true
		}
		return !found
	})
	return first, found
}

// expect fails if got is not the minimal automaton of the words that are wanted, by whether the automata of l have them.
func expect(t *testing.T, what string, got api.Auto, e api.Errno, l []api.Auto, wanted func(in []bool) bool) {
	t.Helper()
	texts := make([]string, len(l))
	for i, a := range l {
		texts[i] = show(a)
	}
	if e != api.OK {
		t.Fatalf("%s of %q: the error %d", what, texts, e)
	}
	if flaw := flawOf(got); flaw != "" {
		t.Fatalf("%s of %q: %s: %s", what, texts, show(got), flaw)
	}
	word, differ := firstWord(append([]api.Auto{got}, l...), func(in []bool) bool { return in[0] != wanted(in[1:]) })
	if differ {
		t.Fatalf("%s of %q: %s is wrong about %q", what, texts, show(got), word)
	}
}

// flawOf is what is wrong with a, if it is not the minimal automaton of its words, straight from the definition.
func flawOf(a api.Auto) string {
	if isLarge(a) || !isValid(a) {
		return "it is not valid"
	}
	if flaw := flawOfOrder(a); flaw != "" {
		return flaw
	}
	tells := tellsApart(a)
	for i := range a.Final {
		if tells(i, -1) || len(a.Final) == 1 && len(a.Steps[0]) == 0 {
			continue
		}
		return fmt.Sprintf("no word leads from %d to a final state", i)
	}
	for i := range a.Final {
		for k := range i {
			if !tells(i, k) {
				return fmt.Sprintf("%d and %d are the same", i, k)
			}
		}
	}
	return ""
}

// flawOfOrder is what is wrong with the numbers of states, and with neighbours.
func flawOfOrder(a api.Auto) string {
	found := 1
	for i := 0; i < found; i++ {
		for k, step := range a.Steps[i] {
			if step.To > found {
				return fmt.Sprintf("%d is found too early", step.To)
			}
			if step.To == found {
				found++
			}
			if k > 0 && a.Steps[i][k-1].High+1 == step.Low && a.Steps[i][k-1].To == step.To {
				return fmt.Sprintf("%d has neighbours", i)
			}
		}
	}
	if found < len(a.Final) {
		return "there are states that no word reaches"
	}
	return ""
}

// tellsApart tells whether some word leads from one of two states to a final one, but not from the other; the state -1 is nowhere. It says so of more and more pairs of states, until there are no more.
func tellsApart(a api.Auto) func(i, k int) bool {
	n := len(a.Final)
	apart := make([][]bool, n+1)
	for i := range apart {
		apart[i] = make([]bool, n+1)
		for k := range apart[i] {
			apart[i][k] = (i > 0 && a.Final[i-1]) != (k > 0 && a.Final[k-1])
		}
	}
	characters := letters(a)
	for more := true; more; {
		more = false
		for i := range apart {
			for k := range apart {
				for _, c := range characters {
					if !apart[i][k] && apart[goes(a, i-1, c)+1][goes(a, k-1, c)+1] {
						apart[i][k], more = true, true
					}
				}
			}
		}
	}
	return func(i, k int) bool { return apart[i+1][k+1] }
}

// parse is the expression of a text.
func parse(t *testing.T, text string) api.Regex {
	t.Helper()
	x, _, e := regex.Parse(text)
	if e != api.OK {
		t.Fatalf("Parse(%.300q): %d", text, e)
	}
	return x
}

// made is the automaton of the expression of a text.
func made(t *testing.T, text string) api.Auto {
	t.Helper()
	a, e := regauto.Make(parse(t, text))
	if e != api.OK {
		t.Fatalf("Make of %.300q: %d", text, e)
	}
	return a
}

// randoms calls try with a source of chance that is always the same.
func randoms(t *testing.T, times int, try func(r *rand.Rand)) {
	t.Helper()
	r := rand.New(rand.NewPCG(8, 8))
	for range times {
		try(r)
		if t.Failed() {
			return
		}
	}
}

// oneOf is one of these.
func oneOf[T any](r *rand.Rand, l ...T) T { return l[r.IntN(len(l))] }

// randomAuto is a valid automaton with a few states; some of them are of no use, some are the same, and there are neighbours.
func randomAuto(r *rand.Rand) api.Auto {
	n := 1 + r.IntN(6)
	cuts := []int32{9, 11, 13, 14, 32, 55296, 57344, 65534, 65536, 1114112}
	for range r.IntN(5) {
		cuts = append(cuts, oneOf[int32](r, 'a', 'b', 'c', 'd', 10, 33, 55295, 57345, 65533, 65537, 1114111))
	}
	slices.Sort(cuts)
	cuts = slices.Compact(cuts)
	rare := 1 + r.IntN(8)
	var a api.Auto
	for range n {
		var l []api.Step
		for i, c := range cuts {
			if isCharacter(c) && r.IntN(rare) < 2 {
				l = append(l, api.Step{Low: c, High: cuts[i+1] - 1, To: r.IntN(n)})
			}
		}
		a.Final = append(a.Final, r.IntN(3) == 0)
		a.Steps = append(a.Steps, l)
	}
	return a
}

// randomText is the text of an expression, in parentheses where that may matter.
func randomText(r *rand.Rand, deep int) string {
	kind := r.IntN(10)
	if deep <= 1 {
		kind = r.IntN(5)
	}
	switch kind {
	case 0:
		return "()"
	case 1:
		return oneOf(r, "[ab]", "[a-c]", "[bc]", "[^a]", ".", `\d`, "[^a-z]", "[\t-\U0010ffff]", "[\ue000-\ufffd]", "[\n\r]")
	case 2, 3, 4:
		return oneOf(r, "a", "b", "c")
	case 5, 6:
		text := ""
		for range 2 + r.IntN(2) {
			text += randomText(r, deep-1)
		}
		return "(" + text + ")"
	case 7:
		text := "(" + randomText(r, deep-1)
		for range 1 + r.IntN(2) {
			text += "|" + randomText(r, deep-1)
		}
		return text + ")"
	}
	return "(" + randomText(r, deep-1) + ")" + oneOf(r, "?", "*", "+", "{2}", "{3}", "{0,2}", "{1,3}", "{2,3}", "{2,}", "{3,}", "{0,3}")
}
