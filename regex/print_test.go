package regex_test

import (
	"math/rand/v2"
	"strconv"
	"strings"
	"testing"

	"gabarit/api"
	"gabarit/regex"
)

// canonical is the canonical text of x, straight from the definition.
func canonical(x api.Regex) string {
	within := func(arg api.Regex, kinds string) string {
		if strings.Contains(kinds, strconv.Itoa(arg.Kind)) {
			return "(" + canonical(arg) + ")"
		}
		return canonical(arg)
	}
	const inAlt, inSeq, inTimes = "4", "431", "4351"
	var b strings.Builder
	switch x.Kind {
	case api.RxAlt:
		for i, arg := range x.Args {
			if i > 0 {
				b.WriteString("|")
			}
			b.WriteString(within(arg, inAlt))
		}
	case api.RxSeq:
		for _, arg := range x.Args {
			b.WriteString(within(arg, inSeq))
		}
	case api.RxTimes:
		b.WriteString(within(x.Args[0], inTimes))
		low, high := strconv.Itoa(x.Low), strconv.Itoa(x.High)
		is, ok := map[[2]int]string{{0, 1}: "?", {0, -1}: "*", {1, -1}: "+", {x.Low, x.Low}: "{" + low + "}"}[[2]int{x.Low, x.High}]
		if !ok {
			is = "{" + low + "," + strings.TrimPrefix(high, "-1") + "}"
		}
		b.WriteString(is)
	case api.RxSet:
		return canonicalSet(x.Set)
	}
	return b.String()
}

func canonicalSet(l []api.Range) string {
	write := func(c int32, signs string) string {
		if is, ok := map[int32]string{9: `\t`, 10: `\n`, 13: `\r`}[c]; ok {
			return is
		}
		if strings.ContainsRune(signs, c) {
			return `\` + string(c)
		}
		return string(c)
	}
	if len(l) == 1 && l[0].Low == l[0].High {
		return write(l[0].Low, `.\?*+{}()[]|`)
	}
	text := "["
	for _, r := range l {
		text += write(r.Low, `[]\-^`)
		if r.High > r.Low {
			text += "-" + write(r.High, `[]\-^`)
		}
	}
	return text + "]"
}

// P7.3: the canonical text, by hand.
func TestPrint(t *testing.T) {
	a, b := char('a'), char('b')
	for want, x := range map[string]api.Regex{
		"": empty(), "a": a, "ab": seq(a, b), "a|b": alt(a, b), "a|": alt(a, empty()), "|": alt(empty(), empty()), "||a": alt(empty(), empty(), a), "(a|b)|a": alt(alt(a, b), a), "ab|a": alt(seq(a, b), a), "a*|b": alt(times(0, -1, a), b),
		"(a|b)a": seq(alt(a, b), a), "(ab)a": seq(seq(a, b), a), "a(ba)": seq(a, seq(b, a)), "()a": seq(empty(), a), "()()": seq(empty(), empty()), "a*b": seq(times(0, -1, a), b), "a(|b)": seq(a, alt(empty(), b)),
		"a?": times(0, 1, a), "a*": times(0, -1, a), "a+": times(1, -1, a), "a{0,2}": times(0, 2, a), "a{1}": times(1, 1, a), "a{1,2}": times(1, 2, a), "a{2}": times(2, 2, a), "a{2,}": times(2, -1, a), "a{2,3}": times(2, 3, a), "a{50}": times(50, 50, a), "a{50,}": times(50, -1, a), "a{0,50}": times(0, 50, a), "a{10,20}": times(10, 20, a),
		"(a|b)*": times(0, -1, alt(a, b)), "(ab)?": times(0, 1, seq(a, b)), "(a*)*": times(0, -1, times(0, -1, a)), "(a{2}){3}": times(3, 3, times(2, 2, a)), "()+": times(1, -1, empty()), "[a-b]{2}": times(2, 2, of('a', 'b')),
		`\.`: char('.'), `\\`: char('\\'), `\?`: char('?'), `\*`: char('*'), `\+`: char('+'), `\{`: char('{'), `\}`: char('}'), `\(`: char('('), `\)`: char(')'), `\[`: char('['), `\]`: char(']'), `\|`: char('|'), `\n`: char(10), `\r`: char(13), `\t`: char(9), "-": char('-'), "^": char('^'), " ": char(' '), ",": char(','), "é": char('é'), "\U0010ffff": char(1114111), "\ufffd": char(65533),
		"[a-b]": of('a', 'b'), "[ac]": of('a', 'a', 'c', 'c'), "[0-9A-Z_a-z]": of('0', '9', 'A', 'Z', '_', '_', 'a', 'z'), `[\t-\n\r -\-]`: of(9, 10, 13, 13, 32, '-'), `[\[\]]`: of('[', '[', ']', ']'), `[\[-\]]`: of('[', ']'), `[\\-\^]`: of('\\', '^'), `[\-\^]`: of('-', '-', '^', '^'), "[(-+.?{-}]": of('(', '+', '.', '.', '?', '?', '{', '}'), `[\r!]`: of(13, 13, '!', '!'), "[\ud7ff\ue000]": of(55295, 55295, 57344, 57344), "[\\t-\\n\\r -\ud7ff\ue000-\ufffd\U00010000-\U0010ffff]": of(9, 10, 13, 13, 32, 55295, 57344, 65533, 65536, 1114111),
		`a\*\n[\n|]*`: seq(a, char('*'), char(10), times(0, -1, of(10, 10, '|', '|'))),
	} {
		if got, e := regex.Print(x); got != want || e != api.OK {
			t.Errorf("Print(%v): %q, %d, want %q", x, got, e, want)
		}
		if canonical(x) != want {
			t.Errorf("straight from the definition: %q, want %q", canonical(x), want)
		}
	}
}

// P7.3: the error of Check.
func TestPrintErrors(t *testing.T) {
	for _, x := range append(large(), notValid()...) {
		if got, e := regex.Print(x); got != "" || e != regex.Check(x) {
			t.Errorf("Print: %q, %d, want %d", got, e, regex.Check(x))
		}
	}
	for _, x := range atLimits() {
		if got, e := regex.Print(x); got != canonical(x) || e != api.OK {
			t.Errorf("Print: %.300q, %d", got, e)
		}
	}
}

// P7.3, P7.6: random expressions.
func TestPrintAndParse(t *testing.T) {
	randoms(t, 20000, func(r *rand.Rand) {
		x := randomRegex(r, oneOf(r, 1, 2, 3, 5), 50)
		if !isSmall(x) {
			return
		}
		text := print(t, x)
		if want := canonical(x); text != want {
			t.Errorf("Print(%v): %q, want %q", x, text, want)
		}
		if y := parse(t, text); !same(x, y) {
			t.Errorf("%q was %v, is %v", text, x, y)
		}
	})
}

// P7.6: all texts have the expression of their canonical text.
func TestPrintOfParse(t *testing.T) {
	all := texts()
	for s := range all {
		x := parse(t, s)
		text := print(t, x)
		if y := parse(t, text); !same(x, y) || print(t, y) != text {
			t.Errorf("%q, printed %q: %v, then %v", s, text, x, y)
		}
	}
	randoms(t, 20000, func(r *rand.Rand) {
		s := randomText(r)
		if x, _, e := regex.Parse(s); e == api.OK {
			if y := parse(t, print(t, x)); !same(x, y) {
				t.Errorf("%q, printed %q: %v, then %v", s, print(t, x), x, y)
			}
		}
	})
}

// P7.6: canonical texts at the limits, of which those with more than MaxText bytes are not read.
func TestPrintLong(t *testing.T) {
	for _, x := range atLimits() {
		text := print(t, x)
		y, at, e := regex.Parse(text)
		if len(text) <= 60000 && (e != api.OK || !same(x, y)) || len(text) > 60000 && (e != api.ErrLong || at != 0 || !isNothing(y)) {
			t.Errorf("Parse of the canonical text of %d bytes: %d at %d", len(text), e, at)
		}
	}
}
