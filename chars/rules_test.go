package chars_test

import (
	"math/rand/v2"
	"reflect"
	"slices"
	"strings"
	"testing"

	"gabarit/api"
	"gabarit/chars"
)

// results calls every function of the package with these arguments, and returns what they answer, in order.
func results(c int32, s string, l []int32, yes bool, mode int) [][]any {
	all := func(x ...any) []any { return x }
	three := func(x any, at int, e api.Errno) []any { return all(x, at, e) }
	two := func(x any, e api.Errno) []any { return all(x, e) }
	list, at, e := chars.Decode(s)
	decode := three(list, at, e)
	text, at, e := chars.Unescape(s)
	unescape := three(text, at, e)
	text, e = chars.Encode(l)
	encode := two(text, e)
	text, e = chars.Escape(s, yes)
	escape := two(text, e)
	text, e = chars.Squeeze(s, mode)
	return [][]any{all(chars.Valid(c), chars.Blank(c), chars.First(c), chars.Inner(c), chars.Local(s)), decode, unescape, encode, escape, two(text, e)}
}

// R1, R2: for all arguments, every function returns; with an error, all other results but places are zero.
func TestAllArguments(t *testing.T) {
	pieces := append([]string{"\x00", "\xff", "\xc3", "\x80", "\xed\xa0\x80", "\uffff", "&#", "&#x", "&#x110000;", "99999"}, somePieces...)
	randoms(t, 50000, func(r *rand.Rand) {
		s := randomString(r, pieces)
		l := []int32{int32(r.Uint32()), 'a', int32(r.IntN(1 << 21))}
		for i, x := range results(int32(r.Uint32()), s, l[r.IntN(3):], r.IntN(2) == 0, r.IntN(7)-2) {
			if i == 0 || x[len(x)-1] == api.OK {
				continue
			}
			if v := reflect.ValueOf(x[0]); v.Len() != 0 {
				t.Errorf("%q: error %v, and %v", s, x[len(x)-1], x[0])
			}
		}
	})
}

// R2: with an error, a place is given only where one is promised; without one, it is 0.
func TestPlacesWithoutErrors(t *testing.T) {
	for _, s := range []string{"", "abc", "a&lt;é"} {
		if _, at, e := chars.Decode(s); at != 0 || e != api.OK {
			t.Errorf("Decode(%q): place %d, %d", s, at, e)
		}
		if _, at, e := chars.Unescape(s); at != 0 || e != api.OK {
			t.Errorf("Unescape(%q): place %d, %d", s, at, e)
		}
	}
}

// R3: the list of Encode is not changed, and that of Decode is new.
func TestMemory(t *testing.T) {
	l := []int32{'a', 228, 65533, 0, 'b'}
	was := slices.Clone(l)
	chars.Encode(l)
	chars.Encode(l[:3])
	if !slices.Equal(l, was) {
		t.Errorf("Encode: the list is %d, was %d", l, was)
	}
	s := "aä€"
	one, _, _ := chars.Decode(s)
	two, _, _ := chars.Decode(s)
	for i := range one {
		one[i] = 'x'
	}
	three, _, _ := chars.Decode(s)
	want := []int32{'a', 'ä', '€'}
	if !slices.Equal(two, want) || !slices.Equal(three, want) || s != "aä€" {
		t.Errorf("Decode: %d and %d after another result was overwritten", two, three)
	}
}

// R4: a list may be nil or empty.
func TestNilOrEmpty(t *testing.T) {
	for _, l := range [][]int32{nil, {}} {
		if s, e := chars.Encode(l); s != "" || e != api.OK {
			t.Errorf("Encode of nothing: %q, %d", s, e)
		}
	}
	if l, at, e := chars.Decode(""); len(l) != 0 || at != 0 || e != api.OK {
		t.Errorf("Decode of nothing: %d, %d, %d", l, at, e)
	}
}

// R6: results depend only on the arguments.
func TestSameAgain(t *testing.T) {
	randoms(t, 3000, func(r *rand.Rand) {
		s, mode, yes := randomString(r, somePieces), r.IntN(3), r.IntN(2) == 0
		l, _ := decoded(s)
		c := int32(r.IntN(70000))
		first := results(c, s, l, yes, mode)
		results(c+1, s+"&<", append(l, 0), !yes, 2-mode)
		if again := results(c, strings.Clone(s), slices.Clone(l), yes, mode); !reflect.DeepEqual(first, again) {
			t.Errorf("%q: %v, then %v", s, first, again)
		}
	})
}

// R7: texts that are large.
func TestLarge(t *testing.T) {
	s := strings.Repeat(" a&lt;€\t", 1<<19)
	plain := strings.ReplaceAll(s, "&lt;", "<")
	if got, _, e := chars.Unescape(s); got != plain || e != api.OK {
		t.Errorf("Unescape of %d bytes: %d bytes, %d", len(s), len(got), e)
	}
	if got, e := chars.Escape(plain, false); got != s || e != api.OK {
		t.Errorf("Escape of %d bytes: %d bytes, %d", len(plain), len(got), e)
	}
	if got, e := chars.Squeeze(s, 2); got != squeezed(s, 2) || e != api.OK {
		t.Errorf("Squeeze of %d bytes: %d bytes, %d", len(s), len(got), e)
	}
	l, _, e := chars.Decode(s)
	if got, f := chars.Encode(l); got != joined(l) || got != s || e != api.OK || f != api.OK {
		t.Errorf("Encode of %d characters: %d bytes, %d, %d", len(l), len(got), e, f)
	}
	if _, at, e := chars.Decode(s + "\xff"); at != len(s) || e != api.ErrForm {
		t.Errorf("Decode: %d, %d", at, e)
	}
	amps := strings.Repeat("&", 1<<20)
	if _, at, e := chars.Unescape("a" + amps); at != 1 || e != api.ErrForm {
		t.Errorf("Unescape: %d, %d", at, e)
	}
}
