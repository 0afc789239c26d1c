package chars_test

import (
	"math/rand/v2"
	"strings"
	"testing"
)

// isCharacter, isBlank, isFirst and isInner tell straight from the definitions what c is.
func isCharacter(c int32) bool {
	return c == 9 || c == 10 || c == 13 || c >= 32 && c <= 55295 || c >= 57344 && c <= 65533 || c >= 65536 && c <= 1114111
}

func isBlank(c int32) bool { return c == 9 || c == 10 || c == 13 || c == 32 }

func isFirst(c int32) bool {
	letter := c >= 'a' && c <= 'z' || c >= 'A' && c <= 'Z'
	return letter || c == '_' || isCharacter(c) && c >= 192 && c != 215 && c != 247
}

func isInner(c int32) bool {
	return isFirst(c) || c >= '0' && c <= '9' || c == '-' || c == '.' || c == 183
}

// bytesOf returns the bytes of a character, straight from the definition.
func bytesOf(c int32) string {
	low := func(c int32) byte { return byte(128 + c%64) }
	switch {
	case c < 128:
		return string([]byte{byte(c)})
	case c < 2048:
		return string([]byte{byte(192 + c/64), low(c)})
	case c < 65536:
		return string([]byte{byte(224 + c/4096), low(c / 64), low(c)})
	}
	return string([]byte{byte(240 + c/262144), low(c / 4096), low(c / 64), low(c)})
}

// begins returns the character whose bytes s begins with.
func begins(s string) (int32, bool) {
	sums := []func(b []int32) int32{
		func(b []int32) int32 { return b[0] },
		func(b []int32) int32 { return (b[0]-192)*64 + b[1] - 128 },
		func(b []int32) int32 { return (b[0]-224)*4096 + (b[1]-128)*64 + b[2] - 128 },
		func(b []int32) int32 { return (b[0]-240)*262144 + (b[1]-128)*4096 + (b[2]-128)*64 + b[3] - 128 },
	}
	var b []int32
	for i := 0; i < len(s) && i < 4; i++ {
		b = append(b, int32(s[i]))
		if c := sums[i](b); isCharacter(c) && bytesOf(c) == s[:i+1] {
			return c, true
		}
	}
	return 0, false
}

// decoded returns the characters of s up to the first byte at which none stands, and this byte, or -1.
func decoded(s string) ([]int32, int) {
	var l []int32
	for at := 0; at < len(s); {
		c, ok := begins(s[at:])
		if !ok {
			return l, at
		}
		l = append(l, c)
		at += len(bytesOf(c))
	}
	return l, -1
}

// joined returns the bytes of the characters of l.
func joined(l []int32) string {
	var b strings.Builder
	for _, c := range l {
		b.WriteString(bytesOf(c))
	}
	return b.String()
}

// every calls try with each number near one of the characters, and with some far from them.
func every(try func(c int32)) {
	for c := int32(-300); c <= 1114111+70000; c++ {
		try(c)
	}
	for shift := range 31 {
		for _, c := range []int32{0, 9, 'a', 183, 65533} {
			try(c - 1<<shift)
			try(c | 1<<shift)
		}
	}
	for _, c := range []int32{-1 << 31, -1<<31 + 9, 1<<31 - 1} {
		try(c)
	}
}

// noTexts are strings that are no texts, with the first byte at which no bytes of a character stand.
var noTexts = []struct {
	s  string
	at int
}{
	{"\x00", 0}, {"\x08", 0}, {"a\x0b", 1}, {"\x0c", 0}, {"\x0e", 0}, {"ab\x1f", 2},
	{"\x80", 0}, {"a\xbf", 1}, {"a\xc0\x80", 1}, {"\xc1\xbf", 0}, {"a\xc3", 1}, {"a\xc3a", 1}, {"\xc3\xc3\xa4", 0},
	{"\xe0\x9f\xbf", 0}, {"\xe2\x82", 0}, {"\xe2\x82a", 0}, {"é\xed\xa0\x80", 2}, {"\xed\xbf\xbf", 0}, {"\xef\xbf\xbe", 0}, {"\xef\xbf\xbf", 0},
	{"\xf0\x8f\xbf\xbf", 0}, {"\xf0\x90\x80", 0}, {"\U0010ffff\xf4\x90\x80\x80", 4}, {"\xf5\x80\x80\x80", 0}, {"\xf8\x88\x80\x80\x80", 0}, {"\xff", 0}, {"a\xfe", 1},
	{"\ufeff\ufffd\uffff", 6}, {" \xc3(\xa4", 1},
}

// randoms calls try with a source of chance that is always the same.
func randoms(t *testing.T, times int, try func(r *rand.Rand)) {
	t.Helper()
	r := rand.New(rand.NewPCG(1, 2))
	for range times {
		try(r)
		if t.Failed() {
			return
		}
	}
}

// randomString puts some pieces one behind the other.
func randomString(r *rand.Rand, pieces []string) string {
	var b strings.Builder
	for range r.IntN(9) {
		b.WriteString(pieces[r.IntN(len(pieces))])
	}
	return b.String()
}

// somePieces make texts with blanks, escapes and what looks like them.
var somePieces = []string{
	" ", "  ", "\t", "\n", "\r", "a", "b1", "é", "€", "\U0001f600", "\u00a0", "<", ">", "\"", "'", "&", ";", "#", "x", "0", "41",
	"&lt;", "&gt;", "&amp;", "&quot;", "&apos;", "&#65;", "&#x42;", "&#13;", "&#x20;",
}
