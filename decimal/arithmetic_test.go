package decimal_test

import (
	"math/big"
	"math/rand/v2"
	"testing"

	"gabarit/api"
	"gabarit/decimal"
)

// pairs are the functions of two decimals, with the numbers of their results.
var pairs = []struct {
	what string
	f    func(a, b api.Decimal) (api.Decimal, api.Errno)
	of   func(x, y *big.Rat) *big.Rat
}{
	{"Add", decimal.Add, func(x, y *big.Rat) *big.Rat { return new(big.Rat).Add(x, y) }},
	{"Sub", decimal.Sub, func(x, y *big.Rat) *big.Rat { return new(big.Rat).Sub(x, y) }},
	{"Mul", decimal.Mul, func(x, y *big.Rat) *big.Rat { return new(big.Rat).Mul(x, y) }},
}

// everyPair calls try with all pairs of edges, and with random pairs.
func everyPair(t *testing.T, try func(a, b api.Decimal)) {
	t.Helper()
	l := edges()
	for _, a := range l {
		for _, b := range l {
			try(a, b)
		}
	}
	randoms(t, 5000, func(r *rand.Rand) {
		a, b := randomDecimal(r), randomDecimal(r)
		try(a, b)
		if b.Digits = a.Digits; b.Digits == "0" {
			b.Neg = false
		}
		b.Scale = a.Scale
		try(a, b)
	})
}

// P5.3: Add, Sub and Mul return the decimal of the number, or ErrRange.
func TestPairs(t *testing.T) {
	for _, p := range pairs {
		results := map[api.Errno]int{}
		everyPair(t, func(a, b api.Decimal) {
			want, f := decimalOf(p.of(numberOf(a), numberOf(b)))
			got, e := p.f(a, b)
			if got != want || e != f {
				t.Errorf("%s(%s, %s): %v, %d, want %v, %d", p.what, textOf(a), textOf(b), got, e, want, f)
			}
			results[e]++
		})
		if results[api.OK] < 1000 || results[api.ErrRange] < 1000 {
			t.Errorf("%s: results %v", p.what, results)
		}
	}
}

// P5.3: the examples of the chapter, and where the range ends.
func TestPairExamples(t *testing.T) {
	for _, c := range []struct {
		f          func(a, b api.Decimal) (api.Decimal, api.Errno)
		a, b, want string
	}{
		{decimal.Add, "0.1", "0.2", "0.3"}, {decimal.Mul, "-1.5", "0.2", "-0.3"}, {decimal.Sub, "1", "1", "0"}, {decimal.Mul, "1" + zeros(30), "1" + zeros(30), ""},
		{decimal.Add, "-0.5", "0.5", "0"}, {decimal.Add, "-0.5", "0.25", "-0.25"}, {decimal.Add, "0.25", "-0.5", "-0.25"}, {decimal.Sub, "0", "0", "0"}, {decimal.Sub, "0", "0.1", "-0.1"}, {decimal.Sub, "-0.1", "0", "-0.1"}, {decimal.Sub, "0.1", "-0.1", "0.2"}, {decimal.Sub, "-0.3", "-0.1", "-0.2"}, {decimal.Add, "9.95", "0.05", "10"},
		{decimal.Mul, "0", "-5", "0"}, {decimal.Mul, "-0.5", "-0.2", "0.1"}, {decimal.Mul, "0.5", "20", "10"}, {decimal.Add, "999999999", "1", "1000000000"}, {decimal.Sub, "1000000000", "0.000000001", "999999999.999999999"},
		{decimal.Add, nines(60), "1", ""}, {decimal.Add, nines(59) + "8", "1", nines(60)}, {decimal.Sub, "-" + nines(60), "1", ""}, {decimal.Add, nines(60), "-1", nines(59) + "8"}, {decimal.Add, "1", "0." + zeros(59) + "1", ""}, {decimal.Add, "1", "0." + zeros(58) + "1", "1." + zeros(58) + "1"},
		{decimal.Add, "1" + zeros(59), "0.1", ""}, {decimal.Add, "5" + zeros(59), "4" + zeros(59), "9" + zeros(59)}, {decimal.Add, "5" + zeros(59), "5" + zeros(59), ""}, {decimal.Sub, nines(59) + ".5", "0.5", nines(59)}, {decimal.Add, "0." + nines(60), "0." + zeros(59) + "1", "1"},
		{decimal.Mul, "1" + zeros(29), "1" + zeros(30), "1" + zeros(59)}, {decimal.Mul, "0." + zeros(29) + "1", "0." + zeros(29) + "1", "0." + zeros(59) + "1"}, {decimal.Mul, "0." + zeros(29) + "1", "0." + zeros(30) + "1", ""}, {decimal.Mul, "0." + zeros(59) + "5", "0.2", "0." + zeros(59) + "1"}, {decimal.Mul, "0." + zeros(59) + "5", "0.1", ""}, {decimal.Mul, "0." + zeros(59) + "1", "1" + zeros(59), "0.1"}, {decimal.Mul, nines(60), nines(60), ""}, {decimal.Mul, "0." + zeros(59) + "1", "0." + zeros(59) + "1", ""},
	} {
		want, f := api.Decimal{}, api.ErrRange
		if c.want != "" {
			want, f = d(c.want), api.OK
		}
		if got, e := c.f(d(c.a), d(c.b)); got != want || e != f {
			t.Errorf("%s and %s: %v, %d, want %s", c.a, c.b, got, e, c.want)
		}
	}
}

// P5.3: Neg.
func TestNeg(t *testing.T) {
	check := func(a api.Decimal) {
		want, _ := decimalOf(new(big.Rat).Neg(numberOf(a)))
		if got, e := decimal.Neg(a); got != want || e != api.OK {
			t.Errorf("Neg(%s): %v, %d", textOf(a), got, e)
		}
	}
	for _, a := range edges() {
		check(a)
	}
	randoms(t, 5000, func(r *rand.Rand) { check(randomDecimal(r)) })
	for s, want := range map[string]string{"0": "0", "1.5": "-1.5", "-1.5": "1.5", "-" + nines(60): nines(60)} {
		if got, e := decimal.Neg(d(s)); got != d(want) || e != api.OK {
			t.Errorf("Neg(%s): %v, %d", s, got, e)
		}
	}
}

// P5.3: Cmp.
func TestCmp(t *testing.T) {
	results := map[int]int{}
	everyPair(t, func(a, b api.Decimal) {
		want := numberOf(a).Cmp(numberOf(b))
		got, e := decimal.Cmp(a, b)
		if got != want || e != api.OK {
			t.Errorf("Cmp(%s, %s): %d, %d", textOf(a), textOf(b), got, e)
		}
		results[got]++
	})
	if len(results) != 3 || results[0] < 1000 {
		t.Errorf("results %v", results)
	}
	for _, c := range []struct {
		a, b string
		want int
	}{{"0", "0", 0}, {"-1", "1", -1}, {"1", "-1", 1}, {"0", "-0.1", 1}, {"-0.1", "0", -1}, {"2", "10", -1}, {"-2", "-10", 1}, {"0.9", "0.10000000001", 1}, {"1" + zeros(59), "0." + zeros(59) + "1", 1}, {"1.5", "1.5", 0}, {"-1.5", "-1.5", 0}} {
		if got, e := decimal.Cmp(d(c.a), d(c.b)); got != c.want || e != api.OK {
			t.Errorf("Cmp(%s, %s): %d, %d", c.a, c.b, got, e)
		}
	}
}

// P5.3: what is not valid.
func TestPairsNotValid(t *testing.T) {
	for _, a := range notValid() {
		if got, e := decimal.Neg(a); !isNothing(got) || e != api.ErrArg {
			t.Errorf("Neg(%.300v): %v, %d", a, got, e)
		}
		for _, b := range []api.Decimal{d("0"), d("-1.5"), d(nines(60)), {}, {Digits: "1", Scale: 61}} {
			for _, x := range [][2]api.Decimal{{a, b}, {b, a}, {a, a}} {
				for _, p := range pairs {
					if got, e := p.f(x[0], x[1]); !isNothing(got) || e != api.ErrArg {
						t.Errorf("%s(%.300v): %v, %d", p.what, x, got, e)
					}
				}
				if got, e := decimal.Cmp(x[0], x[1]); got != 0 || e != api.ErrArg {
					t.Errorf("Cmp(%.300v): %d, %d", x, got, e)
				}
			}
		}
	}
}
