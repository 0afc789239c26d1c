package regex_test

import (
	"math/rand/v2"
	"strings"
	"testing"

	"gabarit/api"
	"gabarit/regex"
)

// wordsOf are the words of x of at most so many of these letters, straight from the definition.
func wordsOf(x api.Regex, letters []int32, most int) map[string]bool {
	words := map[string]bool{}
	switch x.Kind {
	case api.RxEmpty:
		words[""] = true
	case api.RxSet:
		for _, c := range letters {
			if in(x.Set, c) && most > 0 {
				words[string(c)] = true
			}
		}
	case api.RxSeq:
		words[""] = true
		for _, arg := range x.Args {
			words = behindEach(words, wordsOf(arg, letters, most), most)
		}
	case api.RxAlt:
		for _, arg := range x.Args {
			for w := range wordsOf(arg, letters, most) {
				words[w] = true
			}
		}
	case api.RxTimes:
		arg := wordsOf(x.Args[0], letters, most)
		high := x.High
		if high < 0 {
			// More words than characters, and than there must be, add nothing: some of them are empty.
			high = max(x.Low, most)
		}
		power := map[string]bool{"": true}
		for n := range high + 1 {
			if n > 0 {
				power = behindEach(power, arg, most)
			}
			if n >= x.Low {
				for w := range power {
					words[w] = true
				}
			}
		}
	}
	return words
}

// behindEach are the words of at most so many characters that have a word of b behind one of a.
func behindEach(a, b map[string]bool, most int) map[string]bool {
	words := map[string]bool{}
	for v := range a {
		for w := range b {
			if len([]rune(v))+len([]rune(w)) <= most {
				words[v+w] = true
			}
		}
	}
	return words
}

// allWords are all words of at most so many of these letters.
func allWords(letters []int32, most int) []string {
	l := []string{""}
	for from := 0; most > 0; most-- {
		until := len(l)
		for ; from < until; from++ {
			for _, c := range letters {
				l = append(l, l[from]+string(c))
			}
		}
	}
	return l
}

// match is what Match says of a valid expression, by its text, and a word.
func match(t *testing.T, text, s string) bool {
	t.Helper()
	yes, e := regex.Match(parse(t, text), s)
	if e != api.OK {
		t.Fatalf("Match(%.100q, %.100q): %d", text, s, e)
	}
	return yes
}

// P7.4: words by hand.
func TestMatch(t *testing.T) {
	for text, words := range map[string][2][]string{
		"":                {{""}, {"a", " ", "\n"}},
		"a":               {{"a"}, {"", "b", "aa", "A", " a", "a\n"}},
		"ab":              {{"ab"}, {"", "a", "b", "ba", "abb", "aab"}},
		"a|b":             {{"a", "b"}, {"", "ab", "c", "|"}},
		"a|":              {{"a", ""}, {"b", "aa"}},
		"a*b":             {{"b", "ab", "aab", strings.Repeat("a", 999) + "b"}, {"", "a", "ba", "abb"}},
		"(ab?){2}":        {{"aa", "aba", "aab", "abab"}, {"", "a", "ab", "abba", "aaa", "ababa"}},
		"a{2,4}":          {{"aa", "aaa", "aaaa"}, {"", "a", "aaaaa", "aab"}},
		"a{3}":            {{"aaa"}, {"", "aa", "aaaa"}},
		"a{2,}":           {{"aa", "aaa", strings.Repeat("a", 1000)}, {"", "a", "ba"}},
		"a{0,2}":          {{"", "a", "aa"}, {"aaa"}},
		"a?":              {{"", "a"}, {"aa", "b"}},
		"a+":              {{"a", "aa"}, {"", "b", "ab"}},
		"(a|b)*b":         {{"b", "ab", "bb", "abab", "bab"}, {"", "a", "ba"}},
		"(a*)*":           {{"", "a", "aaaa"}, {"b", "ab"}},
		"(a|ab)(c|bcd)":   {{"ac", "abc", "abcd", "abbcd"}, {"ab", "abcdd", "abd", ""}},
		"(a|ab)(bc|c)?d":  {{"ad", "abd", "abcd", "acd", "abbcd"}, {"abc", "abccd"}},
		"(aa|aaa)*":       {{"", "aa", "aaa", "aaaa", "aaaaa", "aaaaaaa"}, {"a"}},
		"(aa|aaaaa){3}":   {{"aaaaaa", "aaaaaaaaa", strings.Repeat("a", 12), strings.Repeat("a", 15)}, {"aaaaa", "aaaaaaa", "aaaaaaaa", strings.Repeat("a", 13)}},
		"(|a)b":           {{"b", "ab"}, {"", "a", "aab"}},
		"(a?){3}":         {{"", "a", "aa", "aaa"}, {"aaaa"}},
		"(){5}":           {{""}, {"a"}},
		"a(b(c|d)*)+e":    {{"abe", "abcde", "abbe", "abcbdde"}, {"ae", "acbe", "abc"}},
		".":               {{"a", "\t", " ", "é", "\U0010ffff", "\ufffd", "."}, {"", "\n", "\r", "aa", "\r\n"}},
		`\n`:              {{"\n"}, {"n", "\r", `\n`}},
		`\s+`:             {{" ", " \t\r\n"}, {"", "a", "\u00a0", " a"}},
		`\d{1,2}`:         {{"0", "9", "42"}, {"", "a", "123", "٣", "/", ":"}},
		`\w*`:             {{"", "aZ_09"}, {"a-b", "é", " "}},
		`\D`:              {{"a", "é", "\n"}, {"0", "9"}},
		"[a-c]x":          {{"ax", "bx", "cx"}, {"dx", "x", "`x"}},
		"[^a]":            {{"b", "\n", "\U00010000"}, {"a", "", "bb"}},
		"é[€😀]":           {{"é€", "é😀"}, {"é", "e€", "é€€"}},
		"[\t-\U0010ffff]": {{"\t", "\n", "\r", "\ud7ff", "\ue000", "\ufffd", "\U00010000", "\U0010ffff"}, {"", "aa"}},
	} {
		for i, l := range words {
			for _, s := range l {
				if got := match(t, text, s); got != (i == 0) {
					t.Errorf("Match of %q with %.100q: %v", text, s, got)
				}
			}
		}
	}
}

// P7.4: random expressions, with all words of some letters.
func TestMatchRandom(t *testing.T) {
	yes := 0
	randoms(t, 1500, func(r *rand.Rand) {
		x := randomRegex(r, 2+r.IntN(4), oneOf(r, 2, 3, 50))
		if !isSmall(x) {
			return
		}
		letters := randomLetters(r, x)
		want := wordsOf(x, letters, 4)
		for _, s := range allWords(letters, 4) {
			got, e := regex.Match(x, s)
			if e != api.OK || got != want[s] {
				t.Fatalf("Match(%q, %q): %v, %d", print(t, x), s, got, e)
			}
			if got && s != "" {
				yes++
			}
		}
	})
	if !t.Failed() && yes < 2000 {
		t.Errorf("only %d words match", yes)
	}
}

// randomLetters are three letters, of which most are in sets of x.
func randomLetters(r *rand.Rand, x api.Regex) []int32 {
	letters := []int32{oneOf(r, someCharacters...)}
	each(x, 1, func(x api.Regex, _ int) {
		for _, one := range x.Set {
			letters = append(letters, one.Low, one.High)
		}
	})
	r.Shuffle(len(letters), func(i, k int) { letters[i], letters[k] = letters[k], letters[i] })
	return append(letters, 'a', 'b')[:3]
}

// P7.4: the error of Check, then ErrForm, then ErrLong.
func TestMatchErrors(t *testing.T) {
	long := strings.Repeat("a", 1000)
	for _, x := range append(large(), notValid()...) {
		for _, s := range []string{"", "a", "\xff", long + "a", long + "\xff"} {
			if got, e := regex.Match(x, s); got || e != regex.Check(x) {
				t.Errorf("Match with %.20q: %v, %d, want %d", s, got, e, regex.Check(x))
			}
		}
	}
	for _, x := range []api.Regex{empty(), of(dot...), times(0, -1, of(dot...)), alt(empty(), char('a'))} {
		for _, c := range []struct {
			s string
			e api.Errno
		}{
			{"\xff", api.ErrForm}, {"a\x00", api.ErrForm}, {"\xc3", api.ErrForm}, {"\xed\xa0\x80", api.ErrForm}, {"a\xef\xbf\xbe", api.ErrForm}, {long + "\xff", api.ErrForm}, {strings.Repeat(long, 1000) + "\x00", api.ErrForm},
			{long + "a", api.ErrLong}, {strings.Repeat(long, 1000), api.ErrLong}, {long[1:] + "é", api.ErrLong}, {strings.Repeat("é", 501), api.ErrLong}, {long + "\n", api.ErrLong},
			{long, api.OK}, {strings.Repeat("é", 500), api.OK}, {strings.Repeat("😀", 250), api.OK},
		} {
			if got, e := regex.Match(x, c.s); e != c.e || e != api.OK && got || e == api.OK && got != (x.Kind == api.RxTimes) {
				t.Errorf("Match(%q, %.20q.., %d bytes): %v, %d, want %d", print(t, x), c.s, len(c.s), got, e, c.e)
			}
		}
	}
}

// P7.4: long words of expressions that have very many ways to read them.
func TestMatchLong(t *testing.T) {
	a := strings.Repeat("a", 1000)
	for _, c := range []struct {
		text, s string
		want    bool
	}{
		{"(a*)*b", a, false}, {"(a*)*b", a[1:] + "b", true}, {"(a|a)*b", a, false}, {"((a*)*|(a*)*)*b", a, false}, {"(a|aa)*", a, true}, {"(aa)*", a, true}, {"(aa)*", a[1:], false}, {"(aaa)*", a, false}, {"(aaa)*a", a, true},
		{"(a?){50}a{50}", a[:50], true}, {"(a?){50}a{50}", a[:49], false}, {"(a?){50}a{50}", a[:100], true}, {"(a?){50}a{50}", a[:101], false}, {"(a{0,50}){20}", a, true}, {"(a{0,50}){19}", a[:950], true}, {"(a{0,50}){19}", a[:951], false}, {"(a{50}){20}", a, true}, {"(a{50}){20}", a[1:], false}, {"(a{49}){20}", a[:980], true}, {"(a{49}){20}", a[:981], false},
		{"(((((a{0,50}){0,50}){0,50}){0,50}){0,50}){0,50}b", a, false}, {"((((((a?){50}){50}){50}){50}){50}){50}", a, true}, {"((a|b|ab){25}){2}", strings.Repeat("ab", 50), true}, {"((a|b|ab){25}){2}", strings.Repeat("ab", 50) + "a", false}, {"((a{2,3}){4,5}){6,7}", a[:48], true}, {"((a{2,3}){4,5}){6,7}", a[:47], false}, {"((a{2,3}){4,5}){6,7}", a[:105], true}, {"((a{2,3}){4,5}){6,7}", a[:106], false},
		{"(a+)+(b+)+", a[500:] + strings.Repeat("b", 500), true}, {"(a+)+(b+)+", a, false}, {"((a+){50})*", a, true}, {"((a+){50})*", a[:49], false}, {".*.*.*.*x", a, false}, {"(.|a)*" + strings.Repeat("(.?)", 40), a, true}, {strings.Repeat("(", 17) + "a?" + strings.Repeat(")*", 17) + "b", a, false},
	} {
		if got := match(t, c.text, c.s); got != c.want {
			t.Errorf("Match of %q with %d bytes: %v", c.text, len(c.s), got)
		}
	}
	for _, x := range atLimits() {
		if _, e := regex.Match(x, a); e != api.OK {
			t.Errorf("at its limits: %d", e)
		}
	}
}
