package decimal_test

import (
	"math"
	"math/big"
	"math/rand/v2"
	"regexp"
	"strings"
	"testing"

	"gabarit/api"
	"gabarit/decimal"
)

// P5.1: Check tells which decimals are valid.
func TestCheck(t *testing.T) {
	for _, a := range edges() {
		if e := decimal.Check(a); e != api.OK {
			t.Errorf("Check(%v): %d", a, e)
		}
	}
	for _, a := range notValid() {
		if e := decimal.Check(a); e != api.ErrArg {
			t.Errorf("Check(%.300v): %d", a, e)
		}
	}
	valid := 0
	words("019-. a/:", 3, func(digits string) {
		for _, scale := range []int{-61, -1, 0, 1, 2, 59, 60, 61, 1 << 40} {
			for _, neg := range []bool{false, true} {
				a := api.Decimal{Neg: neg, Digits: digits, Scale: scale}
				want := api.ErrArg
				if isValid(a) {
					want = api.OK
					valid++
				}
				if e := decimal.Check(a); e != want {
					t.Errorf("Check(%v): %d", a, e)
				}
			}
		}
	})
	if valid < 100 {
		t.Errorf("only %d of them are valid", valid)
	}
}

// P5.1: limits of how many digits there are, and of the scale.
func TestCheckLimits(t *testing.T) {
	for n := range 130 {
		want := api.OK
		if n < 1 || n > most {
			want = api.ErrArg
		}
		for _, a := range []api.Decimal{{Digits: nines(n)}, {Digits: nines(n), Scale: 60}, {Digits: nines(n), Neg: true, Scale: n / 3}} {
			if e := decimal.Check(a); e != want {
				t.Errorf("Check(%v), %d digits: %d", a, n, e)
			}
		}
		want = api.OK
		if n > most {
			want = api.ErrArg
		}
		for _, a := range []api.Decimal{{Digits: "1", Scale: n}, {Digits: nines(60), Neg: true, Scale: n}} {
			if e := decimal.Check(a); e != want {
				t.Errorf("Check(%v): %d", a, e)
			}
		}
	}
}

// words calls try with all texts of at most n of these bytes.
func words(letters string, n int, try func(s string)) {
	try("")
	if n == 0 {
		return
	}
	for i := range len(letters) {
		words(letters, n-1, func(s string) {
			try(letters[i:i+1] + s)
		})
	}
}

// P5.1: Of.
func TestOf(t *testing.T) {
	check := func(n int64) {
		t.Helper()
		want, _ := decimalOf(new(big.Rat).SetInt64(n))
		if a := decimal.Of(n); a != want || !isValid(a) {
			t.Errorf("Of(%d): %v", n, a)
		}
	}
	for _, n := range []int64{0, 1, -1, 5, 10, -10, 100, 12345, -987654321, 999999999, 1000000000, -1000000000, 999999999999999999, 1000000000000000000, math.MaxInt64, math.MinInt64, math.MaxInt64 - 1, math.MinInt64 + 1} {
		check(n)
	}
	for n := int64(-2000); n <= 2000; n++ {
		check(n)
	}
	randoms(t, 20000, func(r *rand.Rand) { check(int64(r.Uint64()) >> r.IntN(64)) })
	for n, want := range map[int64]api.Decimal{0: {Digits: "0"}, -7: {Neg: true, Digits: "7"}, 120: {Digits: "120"}, math.MinInt64: {Neg: true, Digits: "9223372036854775808"}} {
		if a := decimal.Of(n); a != want {
			t.Errorf("Of(%d): %v", n, a)
		}
	}
}

// form is that of the texts that Read reads.
var form = regexp.MustCompile(`\A[+-]?([0-9]+|[0-9]+\.|\.[0-9]+|[0-9]+\.[0-9]+)\z`)

// readOf is what Read returns for s.
func readOf(s string) (api.Decimal, api.Errno) {
	if !form.MatchString(s) {
		return api.Decimal{}, api.ErrForm
	}
	r, ok := new(big.Rat).SetString(strings.TrimSuffix(s, "."))
	if !ok {
		panic("no number: " + s)
	}
	return decimalOf(r)
}

// reads checks what Read returns for s.
func reads(t *testing.T, s string) {
	t.Helper()
	want, f := readOf(s)
	if a, e := decimal.Read(s); a != want || e != f {
		t.Errorf("Read(%.300q): %v, %d, want %v, %d", s, a, e, want, f)
	}
}

// P5.2: the examples of the chapter, and texts of each form.
func TestRead(t *testing.T) {
	for s, want := range map[string]api.Decimal{
		"+007.50": {Digits: "75", Scale: 1}, "-.0": {Digits: "0"}, "12.": {Digits: "12"}, "0": {Digits: "0"}, "-0": {Digits: "0"}, "+0": {Digits: "0"}, "000.000": {Digits: "0"},
		"-1": {Neg: true, Digits: "1"}, "+1": {Digits: "1"}, ".5": {Digits: "5", Scale: 1}, "-.050": {Neg: true, Digits: "5", Scale: 2}, "120": {Digits: "120"}, "00120.00": {Digits: "120"}, "0.001": {Digits: "1", Scale: 3}, "100.001": {Digits: "100001", Scale: 3},
	} {
		if a, e := decimal.Read(s); a != want || e != api.OK {
			t.Errorf("Read(%s): %v, %d", s, a, e)
		}
		reads(t, s)
	}
	for _, s := range []string{
		"", ".", "+", "-", "+.", "-.", "..", "1..", "..1", "1.2.3", ".1.", "1.2.", "--1", "++1", "+-1", "-+1", "1-", "1+", "1-1", " 1", "1 ", "\t1", "1\n", "1. 5", "+ 1", "1e3", "1E3", "0x1", "1/2", "1,5", "1_000", "a", "NaN", "Inf", "inf", "-inf",
		"1\x00", "\x00", "\xff", "1\xff", "٣", "１", "1²", "½", "−1", "1:", "/1", nines(61) + "x", nines(61) + ".5.", "." + zeros(60) + "1-", "-" + nines(100) + " ",
	} {
		if a, e := decimal.Read(s); !isNothing(a) || e != api.ErrForm {
			t.Errorf("Read(%.100q): %v, %d", s, a, e)
		}
	}
	words("+-.019 x", 5, func(s string) { reads(t, s) })
}

// P5.2: what is in range does not depend on how many superfluous zeros there are.
func TestReadRange(t *testing.T) {
	for _, s := range []string{
		nines(60), nines(61), "1" + zeros(59), "1" + zeros(60), "1" + zeros(61), "." + nines(60), "." + nines(61), "." + zeros(59) + "1", "." + zeros(60) + "1", "." + zeros(100) + "1", "1" + zeros(100), "1" + zeros(58) + ".5", "1" + zeros(59) + ".5", "1." + zeros(58) + "1", "1." + zeros(59) + "1", nines(30) + "." + nines(30), nines(30) + "." + nines(31), nines(31) + "." + nines(30), nines(59) + "0.1",
		zeros(60), zeros(61) + ".", zeros(200) + "." + zeros(200), "." + zeros(61),
	} {
		before, behind, pointed := strings.Cut(s, ".")
		for _, sign := range []string{"", "+", "-"} {
			for _, n := range []int{0, 1, 59, 60, 61, 500} {
				reads(t, sign+zeros(n)+s)
				reads(t, sign+zeros(n)+before+"."+behind+zeros(n))
				if !pointed {
					reads(t, sign+s+zeros(n))
				}
			}
		}
	}
	if a, e := decimal.Read(zeros(70) + "7.5" + zeros(70)); a != d("7.5") || e != api.OK {
		t.Errorf("Read of 7.5 with zeros: %v, %d", a, e)
	}
	for _, s := range []string{nines(61), "-1" + zeros(60), "." + zeros(60) + "1", "1." + zeros(59) + "1"} {
		if a, e := decimal.Read(s); !isNothing(a) || e != api.ErrRange {
			t.Errorf("Read(%s): %v, %d", s, a, e)
		}
	}
	randoms(t, 20000, func(r *rand.Rand) {
		reads(t, []string{"", "-", "+"}[r.IntN(3)]+randomDigits(r)+[]string{"", "."}[r.IntN(2)]+randomDigits(r))
	})
}

// randomDigits are some digits, often zeros.
func randomDigits(r *rand.Rand) string {
	return zeros(r.IntN(50)*r.IntN(2)) + nines(r.IntN(3)) + zeros(r.IntN(50)*r.IntN(2)) + strings.Repeat("45", r.IntN(10))
}

// textOf is the text of a, straight from the definition.
func textOf(a api.Decimal) string {
	text := ""
	if a.Neg {
		text = "-"
	}
	digits := a.Digits
	for len(digits) < a.Scale {
		digits = "0" + digits
	}
	before := digits[:len(digits)-a.Scale]
	if before == "" {
		before = "0"
	}
	text += before
	if a.Scale > 0 {
		text += "." + digits[len(digits)-a.Scale:]
	}
	return text
}

// P5.2: Text, with the examples of the chapter.
func TestText(t *testing.T) {
	for s, want := range map[string]string{"+007.50": "7.5", "-.0": "0", "12.": "12"} {
		a, _ := decimal.Read(s)
		if text, e := decimal.Text(a); text != want || e != api.OK {
			t.Errorf("Text of Read of %s: %q, %d", s, text, e)
		}
	}
	for want, a := range map[string]api.Decimal{
		"0": {Digits: "0"}, "-1": {Neg: true, Digits: "1"}, "120": {Digits: "120"}, "0.5": {Digits: "5", Scale: 1}, "-0.05": {Neg: true, Digits: "5", Scale: 2}, "0.12": {Digits: "12", Scale: 2}, "0.012": {Digits: "12", Scale: 3}, "1.2": {Digits: "12", Scale: 1},
		"0." + zeros(59) + "7": {Digits: "7", Scale: 60}, "-0." + nines(60): {Neg: true, Digits: nines(60), Scale: 60}, "9." + nines(59): {Digits: nines(60), Scale: 59}, nines(60): {Digits: nines(60)},
	} {
		if text, e := decimal.Text(a); text != want || e != api.OK {
			t.Errorf("Text(%v): %q, %d", a, text, e)
		}
	}
	check := func(a api.Decimal) {
		if text, e := decimal.Text(a); text != textOf(a) || e != api.OK {
			t.Errorf("Text(%v): %q, %d", a, text, e)
		}
	}
	for _, a := range edges() {
		check(a)
	}
	randoms(t, 20000, func(r *rand.Rand) { check(randomDecimal(r)) })
	for _, a := range notValid() {
		if text, e := decimal.Text(a); text != "" || e != api.ErrArg {
			t.Errorf("Text(%.300v): %.300q, %d", a, text, e)
		}
	}
}
