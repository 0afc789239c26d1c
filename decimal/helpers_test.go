package decimal_test

import (
	"math/big"
	"math/rand/v2"
	"strings"
	"testing"

	"gabarit/api"
)

// most is how many digits a decimal has at most, and how many of them may be behind the point.
const most = 60

// d is the decimal whose text this is.
func d(text string) api.Decimal {
	digits, neg := strings.CutPrefix(text, "-")
	before, behind, _ := strings.Cut(digits, ".")
	digits = strings.TrimLeft(before+behind, "0")
	if digits == "" {
		digits = "0"
	}
	return api.Decimal{Neg: neg, Digits: digits, Scale: len(behind)}
}

// nines and zeros are n of these digits.
func nines(n int) string { return strings.Repeat("9", n) }

func zeros(n int) string { return strings.Repeat("0", n) }

// isValid reports straight from the definition whether a is valid.
func isValid(a api.Decimal) bool {
	for _, c := range []byte(a.Digits) {
		if !strings.Contains("0123456789", string(rune(c))) {
			return false
		}
	}
	if len(a.Digits) < 1 || len(a.Digits) > most || a.Scale < 0 || a.Scale > most {
		return false
	}
	if a.Digits == "0" {
		return a.Scale == 0 && !a.Neg
	}
	return !strings.HasPrefix(a.Digits, "0") && (a.Scale == 0 || !strings.HasSuffix(a.Digits, "0"))
}

// tens is 10, n times.
func tens(n int) *big.Int { return new(big.Int).Exp(big.NewInt(10), big.NewInt(int64(n)), nil) }

// times10 is r times 10, n times.
func times10(r *big.Rat, n int) *big.Rat {
	return new(big.Rat).Mul(r, new(big.Rat).SetInt(tens(n)))
}

// by10 is n divided by 10, scale times.
func by10(n *big.Int, scale int) *big.Rat { return new(big.Rat).SetFrac(n, tens(scale)) }

// numberOf is the number for which a stands.
func numberOf(a api.Decimal) *big.Rat {
	n, ok := new(big.Int).SetString(a.Digits, 10)
	if !ok {
		panic("no digits: " + a.Digits)
	}
	if a.Neg {
		n.Neg(n)
	}
	return by10(n, a.Scale)
}

// decimalOf is the valid decimal of a number, if it has one, and the error of the functions that would return it.
func decimalOf(r *big.Rat) (api.Decimal, api.Errno) {
	for scale := range most + 1 {
		n := times10(r, scale)
		if !n.IsInt() {
			continue
		}
		a := api.Decimal{Neg: n.Sign() < 0, Digits: new(big.Int).Abs(n.Num()).String(), Scale: scale}
		if isValid(a) {
			return a, api.OK
		}
		break
	}
	return api.Decimal{}, api.ErrRange
}

// floor is the greatest whole number that is not greater than r.
func floor(r *big.Rat) *big.Int { return new(big.Int).Div(r.Num(), r.Denom()) }

// towardsZero is r, rounded towards zero to n digits.
func towardsZero(r *big.Rat, n int) *big.Rat {
	whole := floor(times10(new(big.Rat).Abs(r), n))
	if r.Sign() < 0 {
		whole.Neg(whole)
	}
	return by10(whole, n)
}

// nearest is r, rounded to nearest to n digits.
func nearest(r *big.Rat, n int) *big.Rat {
	low := floor(times10(r, n))
	high := new(big.Int).Add(low, big.NewInt(1))
	below := new(big.Rat).Sub(r, by10(low, n))
	above := new(big.Rat).Sub(by10(high, n), r)
	c := below.Cmp(above)
	if c < 0 || c == 0 && low.Bit(0) == 0 {
		return by10(low, n)
	}
	return by10(high, n)
}

// edges are valid decimals: small ones, those with few and with many digits, and those near where parts of nine digits end.
func edges() []api.Decimal {
	texts := []string{
		"0", "1", "2", "3", "5", "7", "9", "10", "11", "99", "100", "101",
		"0.1", "0.2", "0.5", "0.9", "1.5", "2.5", "3.5", "0.05", "0.15", "0.25", "0.125", "0.375", "12.5", "120", "0.001", "9.99", "99.95",
		"99999999", "100000000", "999999999", "1000000000", "1000000001", "0.000000001", "0.999999999", "0.0000000001", "1.0000000001",
		"999999999999999999", "1000000000000000000", "0.000000000000000001", "123456789.987654321", "1000000000.000000001",
		"999999999000000000999999999", "500000000000000000", "0.500000000000000001", "0.499999999999999999",
		nines(60), "1" + zeros(59), "1" + zeros(58) + "1", "5" + zeros(59), "2" + zeros(30), "1" + zeros(30), "1" + zeros(29), "9" + zeros(54), nines(54), nines(45) + zeros(15),
		nines(59) + ".9", nines(59) + ".5", nines(58) + "8.5", "1" + zeros(58) + ".5", nines(30) + "." + nines(30), "9." + nines(59), "0." + nines(60), "0.5" + zeros(58) + "1", "0.4" + nines(59),
		"0." + zeros(59) + "1", "0." + zeros(59) + "5", "0." + zeros(58) + "5", "0." + zeros(29) + "1", "0." + zeros(30) + "1", "0." + zeros(53) + nines(7), "0." + zeros(30) + nines(30),
		strings.Repeat("123456789", 6) + "123456", "12345.6789", "0." + strings.Repeat("3", 60), strings.Repeat("142857", 10), "1." + strings.Repeat("142857", 9),
	}
	var l []api.Decimal
	for _, text := range texts {
		l = append(l, d(text))
		if text != "0" {
			l = append(l, d("-"+text))
		}
	}
	return l
}

// notValid are decimals that are not valid.
func notValid() []api.Decimal {
	return []api.Decimal{
		{}, {Neg: true}, {Scale: 1}, {Digits: "00"}, {Digits: "01"}, {Digits: "0123456789"}, {Digits: zeros(60)}, {Digits: "1", Scale: -1}, {Digits: "1", Scale: 61}, {Digits: "1", Scale: -1 << 63}, {Digits: "1", Scale: 1<<63 - 1},
		{Digits: "0", Neg: true}, {Digits: "0", Scale: 1}, {Digits: "0", Scale: 60}, {Digits: "0", Scale: -1}, {Digits: "0", Scale: 1, Neg: true},
		{Digits: "10", Scale: 1}, {Digits: "120", Scale: 60}, {Digits: "1" + zeros(59), Scale: 1}, {Digits: "1" + zeros(60)}, {Digits: nines(61)}, {Digits: nines(61), Scale: 60}, {Digits: nines(1000), Scale: 3},
		{Digits: "-1"}, {Digits: "+1"}, {Digits: "-"}, {Digits: "1.5"}, {Digits: "."}, {Digits: "1."}, {Digits: " 1"}, {Digits: "1 "}, {Digits: "1a"}, {Digits: "a"}, {Digits: "1e3"}, {Digits: "1\x00"}, {Digits: "\xff"}, {Digits: "1/"}, {Digits: "1:"}, {Digits: "1²"}, {Digits: "٣"}, {Digits: "１"}, {Digits: "0x1"}, {Digits: "1_0"},
	}
}

// randoms calls try with a source of chance that is always the same.
func randoms(t *testing.T, times int, try func(r *rand.Rand)) {
	t.Helper()
	r := rand.New(rand.NewPCG(1, 2))
	for range times {
		try(r)
		if t.Failed() {
			return
		}
	}
}

// randomDecimal is a valid decimal, often with the digits 0, 9 and 5, or few of them.
func randomDecimal(r *rand.Rand) api.Decimal {
	some := []string{"0123456789", "09", "0009", "059", "01", "9999998", "5"}[r.IntN(7)]
	most := []int{3, 12, 30, most}[r.IntN(4)]
	digits := make([]byte, 1+r.IntN(most))
	for i := range digits {
		digits[i] = some[r.IntN(len(some))]
	}
	a := api.Decimal{Neg: r.IntN(2) == 0, Digits: string(digits), Scale: r.IntN(most + 1)}
	if r.IntN(3) == 0 {
		a.Scale = 0
	}
	if isValid(a) {
		return a
	}
	return randomDecimal(r)
}

// isNothing reports whether a is the zero value.
func isNothing(a api.Decimal) bool { return a == api.Decimal{} }
