package chars

import (
	"strings"

	"gabarit/api"
)

// maxDigits is how many digits the number of an escape may have.
const maxDigits = 20

// named are the escapes with a name, without their & and their ;.
func named() map[string]int32 {
	return map[string]int32{"lt": '<', "gt": '>', "amp": '&', "quot": '"', "apos": '\''}
}

// written are the characters that are not written as they are, and how they are written.
func written(attribute bool) map[int32]string {
	if attribute {
		return map[int32]string{'<': "&lt;", '>': "&gt;", '&': "&amp;", 13: "&#13;", '"': "&quot;", 9: "&#9;", 10: "&#10;"}
	}
	return map[int32]string{'<': "&lt;", '>': "&gt;", '&': "&amp;", 13: "&#13;"}
}

// Escape returns s with escapes for the characters that mean something else in content, or in an attribute.
func Escape(s string, attribute bool) (string, api.Errno) {
	escapes := written(attribute)
	var text strings.Builder
	for _, c := range characters(s) {
		if c == noCharacter {
			return "", api.ErrForm
		}
		if escape, ok := escapes[c]; ok {
			text.WriteString(escape)
		} else {
			text.WriteRune(c)
		}
	}
	return text.String(), api.OK
}

// Unescape returns s with a character for each escape; or the byte that is wrong.
func Unescape(s string) (string, int, api.Errno) {
	for at, c := range characters(s) {
		if c == noCharacter {
			return "", at, api.ErrForm
		}
	}
	names := named()
	var text strings.Builder
	at := 0
	for {
		plain, rest, found := strings.Cut(s[at:], "&")
		text.WriteString(plain)
		if !found {
			return text.String(), 0, api.OK
		}
		at += len(plain)
		body, _, ended := strings.Cut(rest, ";")
		c := meant(body, names)
		if !ended || c == noCharacter {
			return "", at, api.ErrForm
		}
		text.WriteRune(c)
		at += len("&") + len(body) + len(";")
	}
}

// meant returns the character of the escape with this body, or noCharacter.
func meant(body string, names map[string]int32) int32 {
	if c, ok := names[body]; ok {
		return c
	}
	if digits, ok := strings.CutPrefix(body, "#x"); ok {
		return numbered(digits, 16)
	}
	if digits, ok := strings.CutPrefix(body, "#"); ok {
		return numbered(digits, 10)
	}
	return noCharacter
}

// numbered returns the character whose number these digits are, or noCharacter.
func numbered(digits string, base int32) int32 {
	if digits == "" || len(digits) > maxDigits {
		return noCharacter
	}
	c := int32(0)
	for i := range len(digits) {
		d := digit(digits[i])
		if d < 0 || d >= base {
			return noCharacter
		}
		c = c*base + d
		// Too large a number must not go on until it overflows.
		if c > highest {
			return noCharacter
		}
	}
	if !Valid(c) {
		return noCharacter
	}
	return c
}

// digit returns the number that a digit stands for, or -1.
func digit(b byte) int32 {
	switch {
	case '0' <= b && b <= '9':
		return int32(b - '0')
	case 'a' <= b && b <= 'f':
		return int32(b-'a') + 10
	case 'A' <= b && b <= 'F':
		return int32(b-'A') + 10
	}
	return -1
}
