package chars_test

import (
	"math/rand/v2"
	"slices"
	"strconv"
	"strings"
	"testing"

	"gabarit/api"
	"gabarit/chars"
)

// escaped writes a text with escapes, character by character.
func escaped(s string, attribute bool) string {
	s = strings.ReplaceAll(s, "&", "&amp;")
	s = strings.ReplaceAll(s, "<", "&lt;")
	s = strings.ReplaceAll(s, ">", "&gt;")
	s = strings.ReplaceAll(s, "\r", "&#13;")
	if attribute {
		s = strings.ReplaceAll(s, "\"", "&quot;")
		s = strings.ReplaceAll(s, "\t", "&#9;")
		s = strings.ReplaceAll(s, "\n", "&#10;")
	}
	return s
}

// P2.3: escapes of characters, and of no others.
func TestEscape(t *testing.T) {
	for _, c := range []struct{ s, content, attribute string }{
		{"", "", ""},
		{"a<b\"c", "a&lt;b\"c", "a&lt;b&quot;c"},
		{"<>&\"'", "&lt;&gt;&amp;\"'", "&lt;&gt;&amp;&quot;'"},
		{"\t\n\r ", "\t\n&#13; ", "&#9;&#10;&#13; "},
		{"&lt;", "&amp;lt;", "&amp;lt;"},
		{"]]>", "]]&gt;", "]]&gt;"},
	} {
		if got, e := chars.Escape(c.s, false); got != c.content || e != api.OK {
			t.Errorf("Escape(%q): %q, %d", c.s, got, e)
		}
		if got, e := chars.Escape(c.s, true); got != c.attribute || e != api.OK {
			t.Errorf("Escape(%q) as an attribute: %q, %d", c.s, got, e)
		}
	}
	every(func(c int32) {
		if !isCharacter(c) {
			return
		}
		for _, attribute := range []bool{false, true} {
			s := bytesOf(c) + "a" + bytesOf(c)
			if got, e := chars.Escape(s, attribute); got != escaped(s, attribute) || e != api.OK {
				t.Errorf("Escape(%q, %v): %q, %d", s, attribute, got, e)
			}
		}
	})
	for _, c := range noTexts {
		for _, attribute := range []bool{false, true} {
			if got, e := chars.Escape("<"+c.s+"<", attribute); got != "" || e != api.ErrForm {
				t.Errorf("Escape(%q): %q, %d", c.s, got, e)
			}
		}
	}
}

// P2.4: escapes that are some, and what is none.
func TestUnescape(t *testing.T) {
	zeros := strings.Repeat("0", 18)
	for _, c := range []struct {
		s, want string
		at      int
		e       api.Errno
	}{
		{"", "", 0, api.OK},
		{"plain; #x 'text'\r\n", "plain; #x 'text'\r\n", 0, api.OK},
		{"&lt;&#65;&#x42;", "<AB", 0, api.OK},
		{"&lt;&gt;&amp;&quot;&apos;", "<>&\"'", 0, api.OK},
		{"&amp;lt;", "&lt;", 0, api.OK},
		{"&#38;amp;", "&amp;", 0, api.OK},
		{"é&#233;;&#xe9;", "éé;é", 0, api.OK},
		{"&#9;&#10;&#13;&#32;", "\t\n\r ", 0, api.OK},
		{"&#xAbC;&#xaBc;", "\u0abc\u0abc", 0, api.OK},
		{"&#xd7ff;&#xE000;&#xfffd;&#x10000;&#x10FFFF;&#1114111;", "\ud7ff\ue000\ufffd\U00010000\U0010ffff\U0010ffff", 0, api.OK},
		{"&#" + zeros + "65;&#x" + zeros + "42;", "AB", 0, api.OK},
		{"&#0" + zeros + "65;", "", 0, api.ErrForm},
		{"&#x0" + zeros + "42;", "", 0, api.ErrForm},
		{"<" + "&#00" + zeros + "0;", "", 1, api.ErrForm},
		{"a&b", "", 1, api.ErrForm},
		{"a&lt", "", 1, api.ErrForm},
		{"a&", "", 1, api.ErrForm},
		{"&;", "", 0, api.ErrForm},
		{"&&lt;", "", 0, api.ErrForm},
		{"&lt;&&lt;", "", 4, api.ErrForm},
		{"é&b;&c;", "", 2, api.ErrForm},
		{"&LT;", "", 0, api.ErrForm},
		{"& lt;", "", 0, api.ErrForm},
		{"&lt ;", "", 0, api.ErrForm},
		{"&nbsp;", "", 0, api.ErrForm},
		{"&#;", "", 0, api.ErrForm},
		{"&#x;", "", 0, api.ErrForm},
		{"&x42;", "", 0, api.ErrForm},
		{"&65;", "", 0, api.ErrForm},
		{"&#X42;", "", 0, api.ErrForm},
		{"&#4a;", "", 0, api.ErrForm},
		{"&#x4g;", "", 0, api.ErrForm},
		{"&#x4G;", "", 0, api.ErrForm},
		{"&#x4`;", "", 0, api.ErrForm},
		{"&#x4@;", "", 0, api.ErrForm},
		{"&#6/;", "", 0, api.ErrForm},
		{"&#6:;", "", 0, api.ErrForm},
		{"&#-65;", "", 0, api.ErrForm},
		{"&#+65;", "", 0, api.ErrForm},
		{"&# 65;", "", 0, api.ErrForm},
		{"&#6_5;", "", 0, api.ErrForm},
		{"&#٣;", "", 0, api.ErrForm},
		{"&#0;", "", 0, api.ErrForm},
		{"&#x0;", "", 0, api.ErrForm},
		{"&#11;", "", 0, api.ErrForm},
		{"&#xd800;", "", 0, api.ErrForm},
		{"&#65534;", "", 0, api.ErrForm},
		{"&#xffff;", "", 0, api.ErrForm},
		{"&#1114112;", "", 0, api.ErrForm},
		{"&#x110000;", "", 0, api.ErrForm},
		{"&#4294967361;", "", 0, api.ErrForm},
		{"&#18446744073709551681;", "", 0, api.ErrForm},
		{"&#x100000041;", "", 0, api.ErrForm},
		{"&#x10000000000000041;", "", 0, api.ErrForm},
		{"&#99999999999999999999;", "", 0, api.ErrForm},
		{"&#xffffffffffffffffffff;", "", 0, api.ErrForm},
	} {
		if got, at, e := chars.Unescape(c.s); got != c.want || at != c.at || e != c.e {
			t.Errorf("Unescape(%q): %q, %d, %d", c.s, got, at, e)
		}
	}
	for _, c := range noTexts {
		if got, at, e := chars.Unescape("&&lt;" + c.s + "&"); got != "" || at != 5+c.at || e != api.ErrForm {
			t.Errorf("Unescape(%q): %q, %d, %d", c.s, got, at, e)
		}
	}
}

// P2.4: the numbers of all characters, and of what is none.
func TestUnescapeNumbers(t *testing.T) {
	every(func(c int32) {
		for _, s := range []string{"&#" + strconv.Itoa(int(c)) + ";", "&#x" + strconv.FormatInt(int64(c), 16) + ";", "&#x00" + strings.ToUpper(strconv.FormatInt(int64(c), 16)) + ";"} {
			got, at, e := chars.Unescape("-" + s)
			if isCharacter(c) && (got != "-"+bytesOf(c) || at != 0 || e != api.OK) || !isCharacter(c) && (got != "" || at != 1 || e != api.ErrForm) {
				t.Errorf("Unescape(%q): %q, %d, %d", "-"+s, got, at, e)
			}
		}
	})
}

// squeezed does what the modes say, step by step.
func squeezed(s string, mode int) string {
	if mode == 0 {
		return s
	}
	for _, blank := range []string{"\t", "\n", "\r"} {
		s = strings.ReplaceAll(s, blank, " ")
	}
	if mode == 1 {
		return s
	}
	parts := slices.DeleteFunc(strings.Split(s, " "), func(part string) bool { return part == "" })
	return strings.Join(parts, " ")
}

// P2.5: what becomes of blanks.
func TestSqueeze(t *testing.T) {
	for _, c := range []struct{ s, one, two string }{
		{"", "", ""},
		{"  a\tb", "  a b", "a b"},
		{" \t\r\n ", "     ", ""},
		{"a", "a", "a"},
		{"\r\na \t b\n\nc\r", "  a   b  c ", "a b c"},
		{"a\u00a0 \u3000b", "a\u00a0 \u3000b", "a\u00a0 \u3000b"},
	} {
		for mode, want := range []string{c.s, c.one, c.two} {
			if got, e := chars.Squeeze(c.s, mode); got != want || e != api.OK {
				t.Errorf("Squeeze(%q, %d): %q, %d", c.s, mode, got, e)
			}
		}
	}
	every(func(c int32) {
		if !isCharacter(c) {
			return
		}
		for mode := range 3 {
			s := bytesOf(c) + "a" + bytesOf(c) + bytesOf(c) + "b" + bytesOf(c)
			if got, e := chars.Squeeze(s, mode); got != squeezed(s, mode) || e != api.OK {
				t.Errorf("Squeeze(%q, %d): %q, %d", s, mode, got, e)
			}
		}
	})
	randoms(t, 20000, func(r *rand.Rand) {
		s, mode := randomString(r, somePieces), r.IntN(3)
		if got, e := chars.Squeeze(s, mode); got != squeezed(s, mode) || e != api.OK {
			t.Errorf("Squeeze(%q, %d): %q, %d", s, mode, got, e)
		}
	})
}

// P2.5: modes that are none, and what is no text.
func TestSqueezeErrors(t *testing.T) {
	for _, mode := range []int{-1, 3, 4, -1 << 63, 1<<63 - 1, 1 << 32} {
		for _, s := range []string{"", " a ", "\xff"} {
			if got, e := chars.Squeeze(s, mode); got != "" || e != api.ErrArg {
				t.Errorf("Squeeze(%q, %d): %q, %d", s, mode, got, e)
			}
		}
	}
	for _, c := range noTexts {
		for mode := range 3 {
			if got, e := chars.Squeeze(" a "+c.s, mode); got != "" || e != api.ErrForm {
				t.Errorf("Squeeze(%q, %d): %q, %d", c.s, mode, got, e)
			}
		}
	}
}

// P2.6: Encode and Decode, Escape and Unescape, Squeeze and itself.
func TestProperties(t *testing.T) {
	randoms(t, 20000, func(r *rand.Rand) {
		s := randomString(r, somePieces)
		l, _, e := chars.Decode(s)
		if again, f := chars.Encode(l); again != s || e != api.OK || f != api.OK {
			t.Errorf("Encode(Decode(%q)): %q, %d, %d", s, again, e, f)
		}
		r.Shuffle(len(l), func(i, k int) { l[i], l[k] = l[k], l[i] })
		text, e := chars.Encode(l)
		if again, _, f := chars.Decode(text); !slices.Equal(again, l) || e != api.OK || f != api.OK {
			t.Errorf("Decode(Encode(%d)): %d, %d, %d", l, again, e, f)
		}
		for _, attribute := range []bool{false, true} {
			x, e := chars.Escape(s, attribute)
			if again, _, f := chars.Unescape(x); again != s || e != api.OK || f != api.OK {
				t.Errorf("Unescape(Escape(%q)): %q, %d, %d", s, again, e, f)
			}
		}
		once := make([]string, 3)
		for mode := range 3 {
			once[mode], _ = chars.Squeeze(s, mode)
			if twice, e := chars.Squeeze(once[mode], mode); twice != once[mode] || e != api.OK {
				t.Errorf("Squeeze(%q, %d): %q, and then %q", s, mode, once[mode], twice)
			}
		}
		if x, e := chars.Squeeze(once[1], 2); x != once[2] || e != api.OK {
			t.Errorf("Squeeze(%q, 2): %q, but %q behind the mode 1", s, once[2], x)
		}
	})
}
