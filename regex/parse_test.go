package regex_test

import (
	"math/rand/v2"
	"strings"
	"testing"

	"gabarit/api"
	"gabarit/regex"
)

// The sets that some texts stand for.
var (
	digits  = []int32{'0', '9'}
	words   = []int32{'0', '9', 'A', 'Z', '_', '_', 'a', 'z'}
	blanks  = []int32{9, 10, 13, 13, 32, 32}
	noDigit = []int32{9, 10, 13, 13, 32, '0' - 1, '9' + 1, 55295, 57344, 65533, 65536, 1114111}
	noBlank = []int32{33, 55295, 57344, 65533, 65536, 1114111}
	noWord  = []int32{9, 10, 13, 13, 32, '0' - 1, '9' + 1, 'A' - 1, 'Z' + 1, '_' - 1, '_' + 1, 'a' - 1, 'z' + 1, 55295, 57344, 65533, 65536, 1114111}
	dot     = []int32{9, 9, 32, 55295, 57344, 65533, 65536, 1114111}
)

// texts are texts, and what they stand for.
func texts() map[string]api.Regex {
	a, b, c := char('a'), char('b'), char('c')
	return map[string]api.Regex{
		"": empty(), "a": a, "ab": seq(a, b), "abc": seq(a, b, c), "a|b": alt(a, b), "a|b|c": alt(a, b, c), "|": alt(empty(), empty()), "a|": alt(a, empty()), "|a": alt(empty(), a), "a||b": alt(a, empty(), b), "ab|c": alt(seq(a, b), c),
		"()": empty(), "(a)": a, "((a))": a, "(ab)": seq(a, b), "(ab)c": seq(seq(a, b), c), "a(bc)": seq(a, seq(b, c)), "a()": seq(a, empty()), "()()": seq(empty(), empty()), "(a|b)|c": alt(alt(a, b), c), "a|(b|c)": alt(a, alt(b, c)), "(a|b)c": seq(alt(a, b), c), "a(|b)": seq(a, alt(empty(), b)), "(|)": alt(empty(), empty()),
		"a?": times(0, 1, a), "a*": times(0, -1, a), "a+": times(1, -1, a), "ab*": seq(a, times(0, -1, b)), "(ab)*": times(0, -1, seq(a, b)), "(a*)*": times(0, -1, times(0, -1, a)), "((a?)+)*": times(0, -1, times(1, -1, times(0, 1, a))), "()*": times(0, -1, empty()), "(a|b)+": times(1, -1, alt(a, b)), "(a)*": times(0, -1, a),
		"a{1}": times(1, 1, a), "a{2}": times(2, 2, a), "a{50}": times(50, 50, a), "a{0,}": times(0, -1, a), "a{1,}": times(1, -1, a), "a{50,}": times(50, -1, a), "a{0,1}": times(0, 1, a), "a{0,50}": times(0, 50, a), "a{3,3}": times(3, 3, a), "a{10,20}": times(10, 20, a), "a{9,10}": times(9, 10, a), "a{2,}b": seq(times(2, -1, a), b), "(){2}": times(2, 2, empty()), "[a]{2}": times(2, 2, a), `\d{3}`: times(3, 3, of(digits...)), "(a{2}){3}": times(3, 3, times(2, 2, a)),
		`\d`: of(digits...), `\D`: of(noDigit...), `\s`: of(blanks...), `\S`: of(noBlank...), `\w`: of(words...), `\W`: of(noWord...), ".": of(dot...), `\n`: char(10), `\r`: char(13), `\t`: char(9), `\.\\`: seq(char('.'), char('\\')),
		"-": char('-'), "^": char('^'), ",": char(','), " ": char(' '), "\n": char(10), "\r": char(13), "\t": char(9), " a\n": seq(char(' '), a, char(10)), "é": char('é'), "\U0010ffff": char(1114111), "\ufffd": char(65533), "a-b": seq(a, char('-'), b), "^a": seq(char('^'), a), "0": char('0'), "$/&<>": seq(char('$'), char('/'), char('&'), char('<'), char('>')),
		"[a]": a, "[ab]": of('a', 'b'), "[ba]": of('a', 'b'), "[ac]": of('a', 'a', 'c', 'c'), "[aa]": a, "[a-c]": of('a', 'c'), "[a-a]": a, "[a-cb-d]": of('a', 'd'), "[a-bc-d]": of('a', 'd'), "[xa-c]": of('a', 'c', 'x', 'x'), `[\d]`: of(digits...), `[\da]`: of('0', '9', 'a', 'a'), `[a\d]`: of('0', '9', 'a', 'a'), `[\d\D]`: of(9, 10, 13, 13, 32, 55295, 57344, 65533, 65536, 1114111), `[\D\d]`: of(9, 10, 13, 13, 32, 55295, 57344, 65533, 65536, 1114111), `[\s\w]`: of(9, 10, 13, 13, 32, 32, '0', '9', 'A', 'Z', '_', '_', 'a', 'z'), `[\W_]`: of(9, 10, 13, 13, 32, '0'-1, '9'+1, 'A'-1, 'Z'+1, 'a'-1, 'z'+1, 55295, 57344, 65533, 65536, 1114111),
		"[^a]": of(9, 10, 13, 13, 32, 'a'-1, 'b', 55295, 57344, 65533, 65536, 1114111), `[^\d]`: of(noDigit...), `[^\D]`: of(digits...), `[^\W]`: of(words...), `[^\S]`: of(blanks...), `[^\n\r]`: of(dot...), "[^\n\r]": of(dot...), "[^a-z]": of(9, 10, 13, 13, 32, 96, 123, 55295, 57344, 65533, 65536, 1114111),
		"[a-z-[aeiou]]": of('b', 'd', 'f', 'h', 'j', 'n', 'p', 't', 'v', 'z'), "[a-[b]]": a, "[ab-[b]]": a, `[\w-[\d]]`: of('A', 'Z', '_', '_', 'a', 'z'), `[\w-[\d]]-`: seq(of('A', 'Z', '_', '_', 'a', 'z'), char('-')), "[a-e-[b-d-[c]]]": of('a', 'a', 'c', 'c', 'e', 'e'), `[^\D-[5]]`: of('0', '4', '6', '9'), `[^a-[^a-c]]`: of('b', 'c'), `[^a-[^c-e]]`: of('c', 'e'), "[a-c-[b]]": of('a', 'a', 'c', 'c'), `[\d-[^5-7]]`: of('5', '7'),
		`[\]]`: char(']'), `[\[]`: char('['), `[\\]`: char('\\'), `[\-]`: char('-'), `[\^]`: char('^'), `[a\-z]`: of('-', '-', 'a', 'a', 'z', 'z'), `[\n\r\t]`: of(9, 10, 13, 13), `[\t-\n]`: of(9, 10), `[\--\^]`: of('-', '^'), `[+-\-]`: of('+', '-'), `[.?*+{}()|]`: of('(', '+', '.', '.', '?', '?', '{', '}'), `[\.\?\*\+\{\}\(\)\|]`: of('(', '+', '.', '.', '?', '?', '{', '}'), "[$-+]": of('$', '+'), "[(-)]": of('(', ')'), "[,-.]": of(',', '.'), "[ \t\n]": of(9, 10, 32, 32), "[{2,1}]": of(',', ',', '1', '2', '{', '{', '}', '}'),
		"[\r- ]": of(13, 13, 32, 32), "[\t-\u00ff]": of(9, 10, 13, 13, 32, 255), "[\ud7ff-\ue000]": of(55295, 55295, 57344, 57344), "[\ufffd-\U00010000]": of(65533, 65533, 65536, 65536), "[\t-\U0010ffff]": of(9, 10, 13, 13, 32, 55295, 57344, 65533, 65536, 1114111), "[é-ü]": of('é', 'ü'), "[€\U0001f600]": of('€', '€', 128512, 128512),
		"[a-c]+|\\d{1,2}": alt(times(1, -1, of('a', 'c')), times(1, 2, of(digits...))), "a[b]c": seq(a, b, c), "[a][b]": seq(a, b), "[a]|[b]": alt(a, b), "([a])": a, "a.b": seq(a, of(dot...), b), ".*": times(0, -1, of(dot...)), "(a|b*)?": times(0, 1, alt(a, times(0, -1, b))),
	}
}

// P7.2: texts by hand.
func TestParse(t *testing.T) {
	for s, want := range texts() {
		x, at, e := regex.Parse(s)
		if e != api.OK || at != 0 || !same(x, want) {
			t.Errorf("Parse(%q): %v, %d, %d, want %v", s, x, at, e, want)
		}
		if y, _, e := reference(s); e != api.OK || !same(y, want) {
			t.Errorf("the grammar reads %q as %v, %d", s, y, e)
		}
	}
}

// P7.2: each character as a unit, in a set, and escaped.
func TestParseCharacters(t *testing.T) {
	// check wants the expression, or, if it has no kind, the error at that byte.
	check := func(s string, want api.Regex, wrongAt int) {
		t.Helper()
		x, at, e := regex.Parse(s)
		if want.Kind != 0 && (e != api.OK || at != 0 || !same(x, want)) {
			t.Errorf("Parse(%q): %v, %d at %d, want %v", s, x, e, at, want)
		}
		if want.Kind == 0 && (e != api.ErrForm || at != wrongAt || !isNothing(x)) {
			t.Errorf("Parse(%q): %v, %d at %d, want ErrForm at %d", s, x, e, at, wrongAt)
		}
	}
	letters := map[int32]api.Regex{'n': char(10), 'r': char(13), 't': char(9), 'd': of(digits...), 'D': of(noDigit...), 's': of(blanks...), 'S': of(noBlank...), 'w': of(words...), 'W': of(noWord...)}
	for _, c := range `.\?*+{}()[]|-^` {
		letters[c] = char(c)
	}
	try := func(c int32) {
		s := string(c)
		if !isCharacter(c) {
			check(s, api.Regex{}, 0)
			check("["+s+"b]", api.Regex{}, 1)
		} else if !strings.ContainsRune(`.\?*+{}()[]|`, c) {
			check(s, char(c), 0)
		} else if strings.ContainsRune("?*+{})]", c) {
			check(s, api.Regex{}, 0)
		}
		if isCharacter(c) && !strings.ContainsRune(`[]\-^`, c) {
			both := setWith([]int32{c, c + 1, 'b', 'c'}, func(d int32) bool { return d == c || d == 'b' })
			check("["+s+"b]", api.Regex{Kind: api.RxSet, Set: both}, 0)
			check("[b"+s+"]", api.Regex{Kind: api.RxSet, Set: both}, 0)
		}
		check(`\`+s, letters[c], 1)
		check(`[\`+s+`]`, letters[c], 2)
	}
	for c := range int32(1200) {
		try(c)
	}
	for _, c := range someCharacters {
		try(c)
	}
	for _, c := range "[]-" {
		check("["+string(c)+"b]", api.Regex{}, 1)
		check("[^"+string(c)+"b]", api.Regex{}, 2)
	}
}

// wrong are texts with the byte at which they go wrong.
var wrong = map[string]int{
	"a)": 1, ")": 0, "(a": 2, "(": 1, "((a)": 4, "(a))": 3, "a|)": 2, "(a|": 3, "()(": 3, "a(b|c": 5,
	"*": 0, "+": 0, "?": 0, "{": 0, "}": 0, "]": 0, "{1}": 0, "a**": 2, "a+?": 2, "a*{2}": 2, "a{2}{3}": 4, "a{2}*": 4, "a|*": 2, "(*)": 1, "(+a)": 1, "a}": 1, "a]": 1, "ab}": 2, "[a]]": 3, "a|?": 2, "é*+": 3,
	"a{": 2, "a{1": 3, "a{1,": 4, "a{1,2": 5, "a{}": 2, "a{,}": 2, "a{,2}": 2, "a{ 1}": 2, "a{1 }": 3, "a{1, 2}": 4, "a{-1}": 2, "a{x": 2, "a{1x": 3, "a{1,x": 4, "a{1,2x": 5, "a{1,2,3}": 5, "a{1,,2}": 4, "a{+1}": 2, "a{é}": 2,
	"a{00}": 3, "a{01}": 3, "a{0": 3, "a{05,6}": 3, "a{1,05}": 5, "a{1,00}": 5, "a{100}": 4, "a{123": 4, "a{1,100}": 6, "a{10,100": 7, "a{50000000000000000000}": 4, "a{000": 3,
	"a{0}": 3, "a{0,0}": 5, "a{2,1}": 5, "a{51}": 4, "a{51,}": 5, "a{51,52}": 7, "a{99,1}": 6, "a{1,51}": 6, "a{1,99}": 6, "a{50,49}": 7, "a{10,9}": 6, "a{1,0}": 5, "a{51": 4, "a{51x": 4, "a{51,": 5, "a{51,x": 5, "a{2,1": 5, "a{2,1x": 5, "a{0}{": 3, "é{0}": 4, "(a{0})": 4,
	`\`: 1, `\x`: 1, `\a`: 1, `\é`: 1, `\ `: 1, `\,`: 1, `\]\`: 3, `\N`: 1, `\0`: 1, `\$`: 1, `(\`: 2, `a\`: 2, `\\\`: 3, `\T`: 1, `\"`: 1,
	"[": 1, "[^": 2, "[]": 1, "[^]": 2, "[a": 2, "[^a": 3, "[]a]": 1, "[^]a]": 2, "[[a]]": 1, "[a[b]]": 2, "[^^]": 2, "[a^]": 2, "[^a^]": 3, "[-a]": 1, "[-]": 1, "[^-a]": 2, "[a-": 3, "[a-]": 3, "[^x-]": 4, "[--a]": 1, "[a--]": 3, "[a-^]": 3, "[a-b": 4, "[a-b-": 5, "[a-b-c]": 5, "[a-b-]": 5, "[a-b-c-d]": 5, "[ab-]": 4, "[a-b^]": 4,
	`[\d-a]`: 4, `[\d-]`: 4, `[\d-\d]`: 4, `[\w-z]`: 4, `[\d-`: 4, `[a-\d]`: 4, `[a-\s]`: 4, `[a-\x]`: 4, `[a-\`: 4, `[\x]`: 2, `[\`: 2, `[a\`: 3, `[a\x]`: 3, `[a-z\q]`: 5, `[\]`: 3, `[a\]`: 4, `[\-`: 3, `[^\`: 3, `[^\q`: 3,
	"[a-[": 4, "[a-[b": 5, "[a-[b]": 6, "[a-[b]x]": 6, "[a-[b]-[c]]": 6, "[a-[b][c]]": 6, "[a-[]]": 4, "[a-[^]]": 5, "[a-[-]]": 4, "[a-[b-]]": 6, "[-[a]]": 1, "[^-[a]]": 2, "[a-b-[": 6, `[\d-[`: 5, "[a-[b-[c]": 9, "[a-[b]]]": 7, "[a-[b]-": 6, "[a-[b]^]": 6,
	"[b-a]": 3, "[b-a": 3, "[b-ax]": 3, "[xb-a]": 4, "[é-b]": 4, "[ü-é]": 4, "[^b-a]": 4, "[a-b-[d-c]]": 8, `[b-\.]`: 3, `[b-\n]`: 3, `[\n-\t]`: 4, "[\U0010ffff-\ufffd]": 6, "[b-ab-a": 3, `[\]-\[]`: 4, "[a-z9-0]": 6, `[b-\t`: 3, `[b-\x]`: 4, `[b-\`: 4, `([b-a]`: 4, `a{0}[b-a]`: 3, `[b-a]a{0}`: 3,
	`[^\d\D]`: 6, `[^\d\D-[x]]`: 10, `[^\d\D-x]`: 7, `[^\D\d]`: 6, "[a-[a]]": 6, "[a-[a-c]]": 8, `[a-c-[\w]]`: 9, "[^a-[^a]]": 8, `[a-[^\s\S]]`: 9, "[^\t-\U0010ffff]": 8, `x[^\w\W]y`: 7, `[^\d\D`: 6, `[^\d\Dx`: 7, `[a-[a]`: 6, `[a-[a]x`: 6, `[\d-[\d]]`: 8, `[é-[é]]`: 8, `[a-[a]][`: 6, `[a-[b-[b]]]`: 9, `[^a-[b-[b]]]`: 10,
	"\x00": 0, "a\x00": 1, "(\x00)": 1, "[\x00]": 1, "[a\x0b]": 2, "\xff": 0, "é\xff": 2, "a\xc3": 1, "a\xc3(": 1, "\xc0\x80": 0, "a\xed\xa0\x80": 1, "\xef\xbf\xbe": 0, "\xef\xbf\xbf": 0, "\xf4\x90\x80\x80": 0, "a{\x00": 2, "a{1\x00": 3, "a{1,\x00": 4, "\\\x00": 1, "\\\xff": 1, "[a-\x00]": 3, "[\\\x00": 2, "[^\x00": 2, "(a\xff": 2, "a\x00)": 1, ")\x00": 0, "*\xff": 0, "a**\xff": 2, "[b-\xff": 3, "[a-[b]\x00": 6, "\x1f": 0, "a|\x7f\x80": 3, "a*\xff": 2,
}

// P7.2: texts that go wrong.
func TestParseWrong(t *testing.T) {
	for s, want := range wrong {
		if x, at, e := regex.Parse(s); e != api.ErrForm || at != want || !isNothing(x) {
			t.Errorf("Parse(%q): %v, %d at %d, want ErrForm at %d", s, x, e, at, want)
		}
		if _, at, e := reference(s); e != api.ErrForm || at != want {
			t.Errorf("the grammar reads %q wrong at %d, not at %d", s, at, want)
		}
	}
}

// someTokens make texts that are nearly right.
var someTokens = []string{"a", "b", "n", "d", "(", ")", "(", ")", "|", "[", "]", "[", "]", "[^", "^", "-", "-", "-[", `\`, `\d`, `\S`, `\n`, `\]`, `\-`, "{", "}", ",", "1", "0", "2", "5", "{1,2}", "{2,1}", "{0}", "{51", ".", "*", "?", "+", "é", " ", "\n", "\xff", "\x00", "b-a", "a-b"}

// randomText is a text of an expression, often with something wrong in it.
func randomText(r *rand.Rand) string {
	var b strings.Builder
	switch r.IntN(3) {
	case 0:
		for range r.IntN(9) {
			b.WriteString(oneOf(r, someTokens...))
		}
		return b.String()
	case 1:
		writeAlt(r, &b, 3)
	case 2:
		writeSet(r, &b, 3)
	}
	s := b.String()
	for range r.IntN(3) {
		at, token := r.IntN(len(s)+1), oneOf(r, someTokens...)
		until := min(len(s), at+r.IntN(3))
		s = oneOf(r, s[:at]+token+s[at:], s[:at]+s[until:], s[:at]+token+s[until:], s[:at])
	}
	return s
}

// writeAlt, writeUnit and writeSet write by the grammar, without looking at what numbers, ranges and sets must be.
func writeAlt(r *rand.Rand, b *strings.Builder, deep int) {
	for i := range 1 + r.IntN(2) {
		if i > 0 {
			b.WriteByte('|')
		}
		for range r.IntN(3) {
			writeUnit(r, b, deep)
			b.WriteString(oneOf(r, "", "", "", "?", "*", "+", "{1}", "{2,}", "{0,3}", "{11,9}", "{0}", "{7,60}"))
		}
	}
}

func writeUnit(r *rand.Rand, b *strings.Builder, deep int) {
	switch r.IntN(5) {
	case 0:
		b.WriteString(oneOf(r, "a", "b", "é", "-", "^", ",", " "))
	case 1:
		b.WriteString(oneOf(r, ".", `\d`, `\W`, `\n`, `\[`, `\^`))
	case 2:
		writeSet(r, b, deep)
	default:
		if deep > 0 {
			b.WriteByte('(')
			writeAlt(r, b, deep-1)
			b.WriteByte(')')
		}
	}
}

func writeSet(r *rand.Rand, b *strings.Builder, deep int) {
	b.WriteString(oneOf(r, "[", "[^"))
	for range 1 + r.IntN(3) {
		b.WriteString(oneOf(r, "a", "b", "c", "\t", "+", `\d`, `\S`, `\-`, `\n`, "a-c", "b-e", `\t-\n`, `+-\-`, "0-9", "é-\ue000", "c-a", `a-\]`))
	}
	if deep > 0 && r.IntN(3) == 0 {
		b.WriteByte('-')
		writeSet(r, b, deep-1)
	}
	b.WriteByte(']')
}

// P7.2: random texts, compared with what the grammar says.
func TestParseRandom(t *testing.T) {
	right, short := 0, 0
	randoms(t, 8000, func(r *rand.Rand) {
		s := randomText(r)
		if len(s) > 40 || strings.Count(s, "(")*strings.Count(s, "[") > 12 {
			return
		}
		short++
		x, at, e := regex.Parse(s)
		y, wantAt, want := reference(s)
		if e != want || at != wantAt || !same(x, y) {
			t.Errorf("Parse(%q): %v, %d at %d, want %v, %d at %d", s, x, e, at, y, want, wantAt)
		}
		if e == api.OK {
			right++
		}
	})
	if !t.Failed() && (right < short/4 || right > 3*short/4) {
		t.Errorf("of %d texts %d are right", short, right)
	}
}

// P7.2: ErrLong, for the text first of all, for the expression last.
func TestParseLong(t *testing.T) {
	opened := strings.Repeat("(", 30000)
	closed := strings.Repeat(")", 30000)
	full := strings.Repeat("a", 60000)
	for _, c := range []struct {
		s  string
		at int
		e  api.Errno
	}{
		{full, 0, api.ErrLong}, {full + "a", 0, api.ErrLong}, {full + ")", 0, api.ErrLong}, {"\xff" + full, 0, api.ErrLong}, {")" + full, 0, api.ErrLong}, {full[1:] + ")", 59999, api.ErrForm}, {full[1:] + "\xff", 59999, api.ErrForm}, {full[2:] + "\xffa", 59998, api.ErrForm}, {full[:59999] + "(", 60000, api.ErrForm},
		{full[:200], 0, api.ErrLong}, {full[:199], 0, api.OK}, {full[:200] + ")", 200, api.ErrForm}, {strings.Repeat("|", 198), 0, api.OK}, {strings.Repeat("|", 199), 0, api.ErrLong}, {full[:198] + "*", 0, api.OK}, {full[:199] + "*", 0, api.ErrLong},
		{opened + closed, 0, api.OK}, {opened[1:] + "a" + closed[1:], 0, api.OK}, {opened + closed[1:], 59999, api.ErrForm}, {opened + opened, 60000, api.ErrForm}, {opened[1:] + closed, 59998, api.ErrForm}, {strings.Repeat("(a", 20000) + strings.Repeat(")*", 10000), 60000, api.ErrForm},
		{strings.Repeat("(", 19) + "a" + strings.Repeat(")*", 19), 0, api.OK}, {strings.Repeat("(", 20) + "a" + strings.Repeat(")*", 20), 0, api.ErrLong}, {strings.Repeat("(", 20) + "a" + strings.Repeat(")*", 20) + "}", 61, api.ErrForm}, {strings.Repeat("(", 20000) + "a" + strings.Repeat(")*", 19999) + ")", 0, api.ErrLong}, {strings.Repeat("a(", 19) + strings.Repeat(")", 19), 0, api.OK}, {strings.Repeat("a(", 20) + strings.Repeat(")", 20), 0, api.ErrLong},
		{manyRanges(200), 0, api.OK}, {manyRanges(201), 0, api.ErrLong}, {manyRanges(19000), 0, api.ErrLong}, {manyRanges(201) + "*)", 606, api.ErrForm}, {"[\u0800-\ufffd-" + manyRanges(200) + "]", 0, api.ErrLong}, {"[\u0801-\ufffd-" + manyRanges(200) + "]", 0, api.ErrLong}, {"[\u0801-\ufffd-" + manyRanges(199) + "]", 0, api.OK}, {manyRanges(201)[:604] + "-[\u0800]]", 0, api.OK},
		{strings.Repeat("[^a-", 11999) + "[b]" + strings.Repeat("]", 11998), 59997, api.ErrForm}, {strings.Repeat("[^a-", 11999) + "[b]" + strings.Repeat("]", 11999), 0, api.OK}, {strings.Repeat("[a-", 14999) + "[b]" + strings.Repeat("]", 14999), 44997 + 3 + 1, api.ErrForm}, {strings.Repeat(`\d`, 30000), 0, api.ErrLong},
	} {
		x, at, e := regex.Parse(c.s)
		if e != c.e || at != c.at || (e == api.OK) == isNothing(x) || e == api.OK && (!isSmall(x) || !isValid(x)) {
			t.Errorf("Parse(%.50q.., %d bytes): %d at %d, want %d at %d", c.s, len(c.s), e, at, c.e, c.at)
		}
	}
}
