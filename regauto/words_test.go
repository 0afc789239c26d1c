package regauto_test

import (
	"math/rand/v2"
	"slices"
	"strings"
	"testing"

	"gabarit/api"
	"gabarit/regauto"
)

// question is an automaton, and what is to be said of its words: the first one, the least and the greatest number of characters.
type question struct {
	a           api.Auto
	first       string
	least, most int
}

// questions are automata with words; most is -1 if there is no greatest number.
func questions(t *testing.T) []question {
	return []question{
		{made(t, "a{2,3}"), "aa", 2, 3}, {made(t, "a*b"), "b", 1, -1}, {made(t, ""), "", 0, 0}, {made(t, "a?"), "", 0, 1}, {made(t, "a*"), "", 0, -1}, {made(t, "b|a"), "a", 1, 1}, {made(t, "b|aa"), "b", 1, 2}, {made(t, "cb|ac|ab"), "ab", 2, 2}, {made(t, "ba*c|aac|abb|bc"), "bc", 2, -1}, {made(t, "(a|b)*b"), "b", 1, -1}, {made(t, "[^a]+"), "\t", 1, -1}, {made(t, "\U0010ffff|\ue000"), "\ue000", 1, 1}, {made(t, "é{7}"), "ééééééé", 7, 7}, {made(t, "x(ab|ba|c)+|y{9}"), "xc", 2, -1},
		{all(), "", 0, -1}, {chain(499), strings.Repeat("a", 499), 499, 499}, {multiples(500), "", 0, -1}, {cycle(500, func(rest int) bool { return rest == 499 }), strings.Repeat("a", 499), 499, -1}, {fan(100, 1000), "d", 1, 1}, {padded(chain(3), 400), "aaa", 3, 3},
		// A state that no word reaches, or from which none leads to a final one, means nothing, whatever its steps are.
		{auto("a>1", "!", "!a>2"), "a", 1, 1}, {auto("a>1 b>2", "!", "a>2"), "a", 1, 1}, {auto("a>2 b>1", "!", "a>2 b>3", "c>3"), "b", 1, 1}, {auto("!a>1", "a>1"), "", 0, 0}, {auto("a>1 b>3", "a>2", "!", "a>4", "a>3", "a>2 b>5"), "aa", 2, 2}, {auto("!", "!a>1"), "", 0, 0},
		// A way that is found later, by a state with a lower number, or by a step of another state.
		{auto("a>3 b>1", "c>2", "!", "d>2"), "ad", 2, 2}, {auto("a>2 b>1", "a>3", "b>3", "!"), "ab", 2, 2}, {auto("c>1 d>2", "b>3", "a>3", "!"), "cb", 2, 2}, {auto("a>1", "b..d>1 x..z>2", "!a>0"), "ax", 2, -1}, {auto("a..c>1 d..f>1", "m>1 n>2", "!"), "an", 2, -1}, {auto("b>2 c>1", "a>3", "a>4", "!", "!b>4"), "ba", 2, -1},
	}
}

// P8.3: Empty, Shortest and Length by hand.
func TestWordsByHand(t *testing.T) {
	for _, q := range questions(t) {
		if got, e := regauto.Empty(q.a); got || e != api.OK {
			t.Errorf("Empty(%s): %v, %d", show(q.a), got, e)
		}
		if got, e := regauto.Shortest(q.a); got != q.first || e != api.OK {
			t.Errorf("Shortest(%s): %q, %d, want %q", show(q.a), got, e, q.first)
		}
		if least, most, e := regauto.Length(q.a); least != q.least || most != q.most || e != api.OK {
			t.Errorf("Length(%s): %d, %d, %d, want %d, %d", show(q.a), least, most, e, q.least, q.most)
		}
	}
}

// withoutWords are automata without words.
func withoutWords() []api.Auto {
	return []api.Auto{none(), auto("a>0"), auto("a>1", "a>0"), auto("", "!"), auto("a>0", "!a>0"), auto("a>1 b>2", "c>1", "", "!a>1"), padded(none(), 499), cycle(500, func(int) bool { return false })}
}

// P8.3: an automaton without words.
func TestWithoutWords(t *testing.T) {
	for _, a := range withoutWords() {
		if got, e := regauto.Empty(a); !got || e != api.OK {
			t.Errorf("Empty(%s): %v, %d", show(a), got, e)
		}
		if got, e := regauto.Shortest(a); got != "" || e != api.ErrNone {
			t.Errorf("Shortest(%s): %q, %d", show(a), got, e)
		}
		if least, most, e := regauto.Length(a); least != 0 || most != 0 || e != api.ErrNone {
			t.Errorf("Length(%s): %d, %d, %d", show(a), least, most, e)
		}
		if got, e := regauto.Words(a, 100); len(got) != 0 || e != api.OK {
			t.Errorf("Words(%s): %q, %d", show(a), got, e)
		}
		if got, e := regauto.Run(a, ""); got || e != api.OK {
			t.Errorf("Run(%s): %v, %d", show(a), got, e)
		}
	}
}

// P8.3: Run by hand.
func TestRun(t *testing.T) {
	for _, c := range []struct {
		a       api.Auto
		yes, no []string
	}{
		{made(t, "(a|b)*b"), []string{"b", "ab", "bb", strings.Repeat("ab", 1000000)}, []string{"", "a", "ba", "c", "bc", "cb", "b ", strings.Repeat("ba", 1000000)}},
		{none(), nil, []string{"", "a"}},
		{all(), []string{"", "a", "\t\n\r \ud7ff\ue000\ufffd\U00010000\U0010ffff", strings.Repeat("é", 1000000)}, nil},
		{auto("c..e>1 g>0", "!a..b>1 y..#128>0"), []string{"c", "d", "e", "gd", "ggea", "cab", "cye", "c\u0080e", "dzc", "c\u0080gc"}, []string{"", "b", "f", "h", "cc", "cx", "c\u0081c", "c\u0080\u0080", "ga", "cy"}},
		{auto("", "!a>1"), nil, []string{"", "a"}},
		{fan(100, 1000), []string{"d", "f", "\u0832"}, []string{"e", "c", "\u0834", "\u0831", "", "dd", "\u0833"}},
		{auto("#9..#10>1 #13>1 #32>1", "!"), []string{"\t", "\n", "\r", " "}, []string{"!", "a", "", "\t\n"}},
	} {
		for i, words := range [][]string{c.no, c.yes} {
			for _, word := range words {
				if got, e := regauto.Run(c.a, word); got != (i == 1) || e != api.OK {
					t.Errorf("Run(%s, %.50q): %v, %d", show(c.a), word, got, e)
				}
			}
		}
	}
}

// P8.3: Run returns ErrForm if s is no text, wherever the word leads; but first the error of Check.
func TestRunForm(t *testing.T) {
	for _, a := range []api.Auto{none(), all(), made(t, "a*"), made(t, "b")} {
		for _, s := range []string{"\xff", "\x00", "a\x00", "\x0b", "b\xc3", "bb\xff", "c\xff", "\xed\xa0\x80", "a\xef\xbf\xbe", "\xc0\xaf", strings.Repeat("a", 2000000) + "\x1f"} {
			if got, e := regauto.Run(a, s); got || e != api.ErrForm {
				t.Errorf("Run(%s, %.50q): %v, %d", show(a), s, got, e)
			}
		}
	}
	for _, a := range slices.Concat(large(), notValid()) {
		for _, s := range []string{"", "a", "\xff"} {
			if got, e := regauto.Run(a, s); got || e != regauto.Check(a) {
				t.Errorf("Run(%s, %.50q): %v, %d, want %d", show(a), s, got, e, regauto.Check(a))
			}
		}
	}
}

// P8.6: Words by hand.
func TestWords(t *testing.T) {
	a := strings.Repeat("a", 200)
	for _, c := range []struct {
		a    api.Auto
		most int
		want []string
	}{
		{made(t, "a*b"), 3, []string{"b", "ab", "aab"}}, {made(t, "[a-z]{2}"), 2, []string{"aa", "ab"}}, {made(t, "a*b"), 0, nil}, {made(t, "a*b"), 1, []string{"b"}}, {made(t, "a{2,3}"), 100, []string{"aa", "aaa"}}, {made(t, ""), 1, []string{""}}, {made(t, ""), 0, nil}, {made(t, ""), 100, []string{""}},
		{made(t, "[ab]{0,2}"), 100, []string{"", "a", "b", "aa", "ab", "ba", "bb"}}, {made(t, "[ab]*"), 5, []string{"", "a", "b", "aa", "ab"}}, {made(t, "c|bb|aaa|ab|é"), 100, []string{"c", "é", "ab", "bb", "aaa"}}, {made(t, "x{3}|[yz]"), 100, []string{"y", "z", "xxx"}},
		{all(), 7, []string{"", "\t", "\n", "\r", " ", "!", `"`}}, {made(t, "[^!-\ud7ff\ue001-\U0010fffe]"), 100, []string{"\t", "\n", "\r", " ", "\ue000", "\U0010ffff"}}, {made(t, "[\ud7fe-\ue001]"), 100, []string{"\ud7fe", "\ud7ff", "\ue000", "\ue001"}},
		{chain(200), 100, []string{a}}, {chain(201), 100, nil}, {chain(499), 100, nil}, {made(t, "(a{50}){4}a{0,3}b?"), 100, []string{a}}, {made(t, "(a{50}){3}a{48}[ab]{0,9}"), 100, []string{a[2:], a[1:], a[2:] + "b", a, a[1:] + "b", a[2:] + "ba", a[2:] + "bb"}}, {multiples(67), 100, []string{"", a[133:], a[66:]}},
		{auto("a>2 b>1", "!", "a>2 b>3", "c>3"), 100, []string{"b"}}, {auto("a>1 b>1", "!"), 100, []string{"a", "b"}}, {auto("a>1", "!", "!a>2"), 100, []string{"a"}}, {auto("b>0 c>2", "!", "!b>1 c>0"), 5, []string{"c", "bc", "cb", "bbc", "bcb"}},
	} {
		if got, e := regauto.Words(c.a, c.most); !slices.Equal(got, c.want) || e != api.OK {
			t.Errorf("Words(%s, %d): %.500q, %d, want %.500q", show(c.a), c.most, got, e, c.want)
		}
	}
	got, e := regauto.Words(made(t, "[a-z]+"), 100)
	if len(got) != 100 || got[25] != "z" || got[26] != "aa" || got[99] != "cv" || e != api.OK {
		t.Errorf("the first 100 words of [a-z]+: %q, %d", got, e)
	}
	if got, e = regauto.Words(fan(100, 1000), 100); len(got) != 100 || got[99] != string(rune(100+198)) || e != api.OK {
		t.Errorf("the first 100 words of 1000: %q, %d", got, e)
	}
}

// P8.6: the error of Check, then ErrArg.
func TestWordsErrors(t *testing.T) {
	for _, most := range []int{-1, 101, -1 << 63, 1<<63 - 1} {
		for _, a := range []api.Auto{none(), all(), chain(3), chain(499)} {
			if got, e := regauto.Words(a, most); len(got) != 0 || e != api.ErrArg {
				t.Errorf("Words(%s, %d): %q, %d", show(a), most, got, e)
			}
		}
		for _, a := range large() {
			if got, e := regauto.Words(a, most); len(got) != 0 || e != api.ErrLong {
				t.Errorf("Words(%s, %d): %q, %d", show(a), most, got, e)
			}
		}
	}
}

// inOrder compares words as the order of words wants it.
func inOrder(a, b string) int {
	x, y := []rune(a), []rune(b)
	if len(x) != len(y) {
		return len(x) - len(y)
	}
	return slices.Compare(x, y)
}

// P8.3, P8.6: random automata, with words that are listed by the definition.
func TestWordsRandom(t *testing.T) {
	found := 0
	randoms(t, 6000, func(r *rand.Rand) {
		a := randomAuto(r)
		want, some := firstWord([]api.Auto{a}, func(in []bool) bool { return in[0] })
		if got, e := regauto.Empty(a); got == some || e != api.OK {
			t.Errorf("Empty(%s): %v, %d", show(a), got, e)
		}
		got, e := regauto.Shortest(a)
		if got != want || (e == api.OK) != some || !some && e != api.ErrNone {
			t.Errorf("Shortest(%s): %q, %d, want %q", show(a), got, e, want)
		}
		words, e := regauto.Words(a, 100)
		if e != api.OK || some != (len(words) > 0) || some && words[0] != want {
			t.Errorf("Words(%s): %q, %d", show(a), words, e)
		}
		for i, word := range words {
			if !has(a, word) || i > 0 && inOrder(words[i-1], word) >= 0 {
				t.Errorf("Words(%s): %q at %d", show(a), words, i)
			}
		}
		found += len(words)
		// Between two words in order, and behind the last one if there are fewer, there is none.
		for _, word := range wordsOf(a, 3, 'a', 'b', 'c', '\t', '\U0010ffff') {
			last := ""
			if len(words) == 100 {
				last = words[99]
			}
			if !slices.Contains(words, word) && (len(words) < 100 || inOrder(word, last) < 0) {
				t.Errorf("Words(%s): %q is missing", show(a), word)
			}
		}
		small, _ := regauto.Words(a, 7)
		if !slices.Equal(small, words[:min(7, len(words))]) {
			t.Errorf("Words(%s, 7): %q", show(a), small)
		}
	})
	if !t.Failed() && found < 80000 {
		t.Errorf("only %d words", found)
	}
}

// wordsOf are the words of a with at most so many of these characters.
func wordsOf(a api.Auto, most int, characters ...int32) []string {
	var found []string
	l := []string{""}
	for from := 0; from < len(l); from++ {
		if has(a, l[from]) {
			found = append(found, l[from])
		}
		if len([]rune(l[from])) < most {
			for _, c := range characters {
				l = append(l, l[from]+string(c))
			}
		}
	}
	return found
}

// lengths is which numbers of characters, below some number, words of a have.
func lengths(a api.Auto, below int) []int {
	var l []int
	at := map[int]bool{0: true}
	for n := range below {
		next := map[int]bool{}
		final := false
		for state := range at {
			final = final || a.Final[state]
			for _, step := range a.Steps[state] {
				next[step.To] = true
			}
		}
		if final {
			l = append(l, n)
		}
		at = next
	}
	return l
}

// P8.3: Length of random automata. A word that is at least as long as there are states goes in a circle, and could go around it once more, or once less.
func TestLengthRandom(t *testing.T) {
	endless := 0
	randoms(t, 3000, func(r *rand.Rand) {
		a := randomAuto(r)
		if r.IntN(3) == 0 {
			// Without circles, words have a greatest length.
			for i := range a.Steps {
				a.Steps[i] = slices.DeleteFunc(a.Steps[i], func(step api.Step) bool { return step.To <= i })
			}
		}
		n := len(a.Final)
		l := lengths(a, 2*n+1)
		least, most, e := regauto.Length(a)
		switch {
		case len(l) == 0:
			if least != 0 || most != 0 || e != api.ErrNone {
				t.Errorf("Length(%s): %d, %d, %d", show(a), least, most, e)
			}
		case l[len(l)-1] >= n:
			endless++
			if least != l[0] || most != -1 || e != api.OK {
				t.Errorf("Length(%s): %d, %d, %d, want %d and no greatest", show(a), least, most, e, l[0])
			}
		case least != l[0] || most != l[len(l)-1] || e != api.OK:
			t.Errorf("Length(%s): %d, %d, %d, want %d", show(a), least, most, e, l)
		}
	})
	if endless < 500 || endless > 2500 {
		t.Errorf("%d have no greatest length", endless)
	}
}
