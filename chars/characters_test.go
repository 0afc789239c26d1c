package chars_test

import (
	"slices"
	"strings"
	"testing"

	"gabarit/api"
	"gabarit/chars"
)

// P2.1: the sorts of characters.
func TestSorts(t *testing.T) {
	for _, ask := range []struct {
		what      string
		got, want func(c int32) bool
	}{
		{"Valid", chars.Valid, isCharacter},
		{"Blank", chars.Blank, isBlank},
		{"First", chars.First, isFirst},
		{"Inner", chars.Inner, isInner},
	} {
		every(func(c int32) {
			if got := ask.got(c); got != ask.want(c) {
				t.Errorf("%s(%d): %v", ask.what, c, got)
			}
		})
	}
}

// P2.1: the examples of the chapter, and the numbers at the ends of ranges, one by one.
func TestSortsOfSome(t *testing.T) {
	for _, ask := range []struct {
		what    string
		f       func(c int32) bool
		yes, no []int32
	}{
		{"Valid", chars.Valid, []int32{9, 10, 13, 32, 127, 55295, 57344, 65533, 65536, 1114111}, []int32{-1, 0, 8, 11, 12, 14, 31, 55296, 57343, 65534, 65535, 1114112}},
		{"Blank", chars.Blank, []int32{9, 10, 13, 32}, []int32{-1, 0, 8, 11, 12, 14, 31, 33, 133, 160, 8232, 12288}},
		{"First", chars.First, []int32{'a', 'z', 'A', 'Z', '_', 192, 214, 216, 246, 248, 894, 8204, 65533, 65536, 1114111}, []int32{'0', '9', '-', '.', ':', '@', '[', '`', '{', 170, 181, 183, 191, 215, 247, 55296, 65534, 1114112, -1}},
		{"Inner", chars.Inner, []int32{'a', 'Z', '_', '0', '9', '-', '.', 183, 192, 1114111}, []int32{',', '/', ':', '@', ' ', 182, 184, 215, 247, 65535, -1}},
	} {
		for _, c := range ask.yes {
			if !ask.f(c) {
				t.Errorf("%s(%d) is false", ask.what, c)
			}
		}
		for _, c := range ask.no {
			if ask.f(c) {
				t.Errorf("%s(%d) is true", ask.what, c)
			}
		}
	}
}

// P2.1: local names.
func TestLocal(t *testing.T) {
	x := strings.Repeat("x", 197)
	for _, s := range []string{"a-1", "a", "_", "Z9.-_", "é", "a·", "\U0001f600", x + "yyy", x + "·y", x + "€", "a\ufffd", strings.Repeat("é", 100), strings.Repeat("\U0010ffff", 50)} {
		if !chars.Local(s) {
			t.Errorf("Local(%q) is false", s)
		}
	}
	for _, s := range []string{"", "-a", ".", "1", "·", "a:b", ":a", "a b", " a", "a ", "a\n", "a\x00", "×", "a÷", "a\xff", "\xff", "a\xc3", "a\ufffe", x + "yyyy", x + "é€", strings.Repeat("é", 101), strings.Repeat("x", 100000)} {
		if chars.Local(s) {
			t.Errorf("Local(%q) is true", s)
		}
	}
	every(func(c int32) {
		if !isCharacter(c) {
			return
		}
		s := bytesOf(c)
		if chars.Local(s) != isFirst(c) || chars.Local(s+"a") != isFirst(c) || chars.Local("a"+s) != isInner(c) || chars.Local("a"+s+"a") != isInner(c) {
			t.Errorf("local names with %d", c)
		}
	})
	for _, c := range noTexts {
		if chars.Local("a" + c.s) {
			t.Errorf("Local(%q) is true", "a"+c.s)
		}
	}
}

// P2.2: the bytes of each character.
func TestBytesOfEach(t *testing.T) {
	every(func(c int32) {
		s, e := chars.Encode([]int32{'a', c, c})
		if !isCharacter(c) {
			if s != "" || e != api.ErrArg {
				t.Errorf("Encode of %d: %q, %d", c, s, e)
			}
			return
		}
		if s != "a"+bytesOf(c)+bytesOf(c) || e != api.OK {
			t.Errorf("Encode of %d: %q, %d", c, s, e)
		}
		l, at, e := chars.Decode(s)
		if !slices.Equal(l, []int32{'a', c, c}) || at != 0 || e != api.OK {
			t.Errorf("Decode(%q): %d, %d, %d", s, l, at, e)
		}
		if l, at, e := chars.Decode(s[:len(s)-1]); c >= 128 && (l != nil || at != 1+len(bytesOf(c)) || e != api.ErrForm) {
			t.Errorf("Decode(%q): %d, %d, %d", s[:len(s)-1], l, at, e)
		}
	})
}

// P2.2: lists with numbers that are no characters, at any place.
func TestEncode(t *testing.T) {
	for _, c := range []struct {
		l    []int32
		want string
		e    api.Errno
	}{
		{nil, "", api.OK},
		{[]int32{97, 228}, "a\xc3\xa4", api.OK},
		{[]int32{9, 10, 13, 32, 127, 128, 2047, 2048, 55295, 57344, 65533, 65536, 1114111}, "\t\n\r \x7f\xc2\x80\xdf\xbf\xe0\xa0\x80\xed\x9f\xbf\xee\x80\x80\xef\xbf\xbd\xf0\x90\x80\x80\xf4\x8f\xbf\xbf", api.OK},
		{[]int32{0}, "", api.ErrArg},
		{[]int32{-1, 97}, "", api.ErrArg},
		{[]int32{97, 55296}, "", api.ErrArg},
		{[]int32{97, 65535, 97}, "", api.ErrArg},
		{[]int32{97, 1114112}, "", api.ErrArg},
	} {
		if s, e := chars.Encode(c.l); s != c.want || e != c.e {
			t.Errorf("Encode(%d): %q, %d", c.l, s, e)
		}
	}
}

// checkDecode compares Decode of s with the definition.
func checkDecode(t *testing.T, s string) {
	t.Helper()
	l, bad := decoded(s)
	want, at := api.OK, 0
	if bad >= 0 {
		l, at, want = nil, bad, api.ErrForm
	}
	if got, place, e := chars.Decode(s); !slices.Equal(got, l) || place != at || e != want {
		t.Errorf("Decode(%q): %d, %d, %d, want %d, %d, %d", s, got, place, e, l, at, want)
	}
}

// P2.2: what is no text, and where.
func TestDecode(t *testing.T) {
	for _, c := range noTexts {
		checkDecode(t, c.s)
		if l, at, e := chars.Decode(c.s + "a\x00\xff"); len(l) != 0 || at != c.at || e != api.ErrForm {
			t.Errorf("Decode(%q): %d, %d, %d", c.s, l, at, e)
		}
	}
	for _, s := range []string{"", "a\xc3\xa4", "\ufeff", "a\ufffdb", "\x7f\u0080"} {
		checkDecode(t, s)
	}
	odd := []byte{0, 8, 9, 11, 31, 32, 127, 128, 143, 144, 159, 160, 189, 190, 191, 192, 193, 194, 223, 224, 237, 239, 240, 244, 245, 255}
	for _, a := range odd {
		for _, b := range odd {
			for _, c := range odd {
				for _, d := range odd {
					checkDecode(t, string([]byte{a, b, c, d}))
				}
			}
		}
	}
	for i := range 1 << 16 {
		checkDecode(t, string([]byte{byte(i >> 8), byte(i)}))
	}
}
