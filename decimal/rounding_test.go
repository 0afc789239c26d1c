package decimal_test

import (
	"math/big"
	"math/rand/v2"
	"strings"
	"testing"

	"gabarit/api"
	"gabarit/decimal"
)

// noScales are no scales.
var noScales = []int{-1, -2, -60, most + 1, most + 2, 1 << 40, 1<<63 - 1, -1 << 63}

// scales are those that are tried with each pair of edges.
var scales = []int{0, 1, 2, 9, 31, 59, 60}

// P5.4: Div returns the decimal of the quotient, rounded towards zero, or ErrRange.
func TestDiv(t *testing.T) {
	results := map[api.Errno]int{}
	check := func(a, b api.Decimal, scale int) {
		t.Helper()
		want, f := decimalOf(towardsZero(new(big.Rat).Quo(numberOf(a), numberOf(b)), scale))
		got, e := decimal.Div(a, b, scale)
		if got != want || e != f {
			t.Errorf("Div(%s, %s, %d): %v, %d, want %v, %d", textOf(a), textOf(b), scale, got, e, want, f)
		}
		results[e]++
	}
	l := edges()
	for i, a := range l {
		for k, b := range l {
			if b.Digits != "0" {
				check(a, b, scales[(i+k)%len(scales)])
			}
		}
	}
	for scale := range most + 1 {
		check(d("2"), d("-3"), scale)
		check(d("-1"), d("8"), scale)
		check(d("0"), d("7"), scale)
		check(d(nines(60)), d("0."+zeros(59)+"1"), scale)
		check(d("0."+zeros(59)+"1"), d(nines(60)), scale)
	}
	randoms(t, 5000, func(r *rand.Rand) {
		a, b := randomDecimal(r), randomDecimal(r)
		if b.Digits == "0" {
			b = d("1")
		}
		check(a, b, r.IntN(most+1))
		check(b, b, r.IntN(most+1))
	})
	if results[api.OK] < 1000 || results[api.ErrRange] < 1000 {
		t.Errorf("results %v", results)
	}
}

// P5.4: the examples of the chapter, and where the range ends.
func TestDivExamples(t *testing.T) {
	for _, c := range []struct {
		a, b  string
		scale int
		want  string
	}{
		{"2", "3", 4, "0.6666"}, {"-7", "2", 0, "-3"}, {"7", "2", 0, "3"}, {"7", "-2", 0, "-3"}, {"-7", "-2", 0, "3"}, {"-1", "2", 0, "0"}, {"1", "-3", 0, "0"}, {"0", "-3", 5, "0"}, {"1", "8", 3, "0.125"}, {"1", "8", 60, "0.125"}, {"1", "8", 2, "0.12"}, {"-1", "8", 2, "-0.12"}, {"10", "0.1", 0, "100"}, {"1.5", "0.5", 7, "3"},
		{"0.999999999", "1", 0, "0"}, {"1" + zeros(59), "1", 60, "1" + zeros(59)}, {"1" + zeros(59), "0.1", 0, ""}, {"1", "0." + zeros(59) + "1", 0, ""}, {"1", "0." + zeros(58) + "1", 0, "1" + zeros(59)}, {nines(60), nines(60), 60, "1"}, {"1", "3", 60, "0." + threes(60)}, {"10", "3", 59, "3." + threes(59)}, {"10", "3", 60, ""}, {"100", "3", 59, ""},
		{"0." + zeros(59) + "1", "1", 60, "0." + zeros(59) + "1"}, {"0." + zeros(59) + "1", "1", 59, "0"}, {"0." + zeros(59) + "9", "10", 60, "0"}, {"0." + zeros(59) + "1", nines(60), 60, "0"}, {nines(60), "0." + zeros(59) + "1", 60, ""}, {"0." + nines(60), "0." + zeros(59) + "1", 60, nines(60)},
	} {
		want, f := api.Decimal{}, api.ErrRange
		if c.want != "" {
			want, f = d(c.want), api.OK
		}
		if got, e := decimal.Div(d(c.a), d(c.b), c.scale); got != want || e != f {
			t.Errorf("Div(%s, %s, %d): %v, %d, want %s", c.a, c.b, c.scale, got, e, c.want)
		}
	}
}

// threes are n of this digit.
func threes(n int) string { return strings.Repeat("3", n) }

// P5.4: by 0, with no scale, or with what is not valid.
func TestDivNotValid(t *testing.T) {
	check := func(a, b api.Decimal, scale int) {
		t.Helper()
		if got, e := decimal.Div(a, b, scale); !isNothing(got) || e != api.ErrArg {
			t.Errorf("Div(%.300v, %.300v, %d): %v, %d", a, b, scale, got, e)
		}
	}
	for _, a := range edges() {
		check(a, d("0"), 0)
		check(a, d("0"), most)
		for _, scale := range noScales {
			check(a, d("3"), scale)
			check(a, d("0"), scale)
		}
	}
	for _, a := range notValid() {
		for _, scale := range append([]int{0, 5, most}, noScales...) {
			check(a, d("1"), scale)
			check(d("1"), a, scale)
			check(a, a, scale)
			check(a, d("0"), scale)
		}
	}
}

// P5.5: Digits.
func TestDigits(t *testing.T) {
	for s, want := range map[string][2]int{"0.001": {3, 3}, "120": {3, 0}, "12.5": {3, 1}, "0": {1, 0}, "-0.001": {3, 3}, "0.5": {1, 1}, "-7": {1, 0}, nines(60): {60, 0}, "0." + nines(60): {60, 60}, "0." + zeros(59) + "1": {60, 60}, "9." + nines(59): {60, 59}, "1.05": {3, 2}} {
		if total, fraction, e := decimal.Digits(d(s)); [2]int{total, fraction} != want || e != api.OK {
			t.Errorf("Digits(%s): %d, %d, %d", s, total, fraction, e)
		}
	}
	check := func(a api.Decimal) {
		want := len(a.Digits)
		if a.Scale > want {
			want = a.Scale
		}
		if total, fraction, e := decimal.Digits(a); total != want || fraction != a.Scale || e != api.OK {
			t.Errorf("Digits(%v): %d, %d, %d", a, total, fraction, e)
		}
	}
	for _, a := range edges() {
		check(a)
	}
	randoms(t, 5000, func(r *rand.Rand) { check(randomDecimal(r)) })
	for _, a := range notValid() {
		if total, fraction, e := decimal.Digits(a); total != 0 || fraction != 0 || e != api.ErrArg {
			t.Errorf("Digits(%.300v): %d, %d, %d", a, total, fraction, e)
		}
	}
}

// P5.5: Round returns the decimal that is nearest, the even one of two.
func TestRound(t *testing.T) {
	check := func(a api.Decimal, scale int) {
		t.Helper()
		want, f := decimalOf(nearest(numberOf(a), scale))
		if got, e := decimal.Round(a, scale); got != want || e != f || e != api.OK {
			t.Errorf("Round(%s, %d): %v, %d, want %v, %d", textOf(a), scale, got, e, want, f)
		}
	}
	for _, a := range edges() {
		for scale := range most + 1 {
			check(a, scale)
		}
	}
	randoms(t, 20000, func(r *rand.Rand) { check(randomDecimal(r), r.IntN(most+1)) })
	for n := int64(-3000); n <= 3000; n++ {
		a, _ := decimalOf(big.NewRat(n, 1000))
		for scale := range 4 {
			check(a, scale)
		}
	}
	for _, c := range []struct {
		a     string
		scale int
		want  string
	}{
		{"2.5", 0, "2"}, {"3.5", 0, "4"}, {"-0.125", 2, "-0.12"}, {"-2.5", 0, "-2"}, {"-3.5", 0, "-4"}, {"0.5", 0, "0"}, {"-0.5", 0, "0"}, {"-0.4", 0, "0"}, {"1.5", 0, "2"}, {"0.05", 1, "0"}, {"0.15", 1, "0.2"}, {"9.95", 1, "10"}, {"9.85", 1, "9.8"}, {"99.5", 0, "100"}, {"2.50000000000000000001", 0, "3"}, {"2.49999999999999999999", 0, "2"}, {"0.0009", 2, "0"}, {"-0.096", 2, "-0.1"}, {"0", 0, "0"}, {"0", 60, "0"}, {"12.5", 1, "12.5"}, {"12.5", 60, "12.5"}, {"120", 0, "120"},
		{nines(59) + ".5", 0, "1" + zeros(59)}, {nines(58) + "8.5", 0, nines(58) + "8"}, {"0." + nines(60), 59, "1"}, {"0." + zeros(59) + "5", 59, "0"}, {"0." + zeros(58) + "15", 59, "0." + zeros(58) + "2"}, {"999999999.5", 0, "1000000000"}, {"0.9999999995", 9, "1"},
	} {
		if got, e := decimal.Round(d(c.a), c.scale); got != d(c.want) || e != api.OK {
			t.Errorf("Round(%s, %d): %v, %d", c.a, c.scale, got, e)
		}
	}
}

// P5.5: no scale, or what is not valid.
func TestRoundNotValid(t *testing.T) {
	check := func(a api.Decimal, scale int) {
		t.Helper()
		if got, e := decimal.Round(a, scale); !isNothing(got) || e != api.ErrArg {
			t.Errorf("Round(%.300v, %d): %v, %d", a, scale, got, e)
		}
	}
	for _, scale := range noScales {
		for _, a := range append(edges(), notValid()...) {
			check(a, scale)
		}
	}
	for _, a := range notValid() {
		for _, scale := range scales {
			check(a, scale)
		}
	}
}
