package decimal_test

import (
	"math/big"
	"math/rand/v2"
	"testing"

	"gabarit/api"
	"gabarit/decimal"
)

// done counts how often a property was put to the test.
type done map[string]int

func (l done) enough(t *testing.T, least int) {
	t.Helper()
	for what, n := range l {
		if n < least {
			t.Errorf("%s: only %d times", what, n)
		}
	}
}

// P5.6: Read of the text is the decimal.
func TestReadOfText(t *testing.T) {
	check := func(a api.Decimal) {
		text, _ := decimal.Text(a)
		if b, e := decimal.Read(text); b != a || e != api.OK {
			t.Errorf("Read of Text of %v: %v, %d", a, b, e)
		}
	}
	for _, a := range edges() {
		check(a)
	}
	randoms(t, 20000, func(r *rand.Rand) { check(randomDecimal(r)) })
}

// few is a decimal with few digits, so that little is out of range.
func few(r *rand.Rand) api.Decimal {
	a, _ := decimalOf(by10(big.NewInt(int64(r.Uint64())>>r.IntN(64)), r.IntN(20)))
	return a
}

// P5.6: sums and products are commutative, also in what is out of range.
func TestCommutative(t *testing.T) {
	everyPair(t, func(a, b api.Decimal) {
		for _, p := range pairs {
			x, e := p.f(a, b)
			y, f := p.f(b, a)
			if p.what == "Sub" {
				y, _ = decimal.Neg(y)
			}
			if e != f || e == api.OK && x != y {
				t.Errorf("%s(%s, %s): %v, %d; the other way %v, %d", p.what, textOf(a), textOf(b), x, e, y, f)
			}
		}
	})
}

// P5.6: what is added is taken away again.
func TestTakenAway(t *testing.T) {
	times := done{"Sub": 0, "Add": 0}
	everyPair(t, func(a, b api.Decimal) {
		if x, e := decimal.Add(a, b); e == api.OK {
			if y, e := decimal.Sub(x, b); y != a || e != api.OK {
				t.Errorf("%s and %s: %v, %d", textOf(a), textOf(b), y, e)
			}
			times["Sub"]++
		}
		if x, e := decimal.Sub(a, b); e == api.OK {
			if y, e := decimal.Add(x, b); y != a || e != api.OK {
				t.Errorf("%s without %s: %v, %d", textOf(a), textOf(b), y, e)
			}
			times["Add"]++
		}
	})
	times.enough(t, 1000)
}

// P5.6: products distribute over sums.
func TestDistribute(t *testing.T) {
	times := done{"in range": 0}
	randoms(t, 20000, func(r *rand.Rand) {
		a, b, c := few(r), few(r), few(r)
		if r.IntN(5) == 0 {
			a = randomDecimal(r)
		}
		sum, e := decimal.Add(b, c)
		whole, e2 := decimal.Mul(a, sum)
		ab, e3 := decimal.Mul(a, b)
		ac, e4 := decimal.Mul(a, c)
		parts, e5 := decimal.Add(ab, ac)
		if max(e, e2, e3, e4, e5) != api.OK {
			return
		}
		times["in range"]++
		if whole != parts {
			t.Errorf("%s times %s and %s: %v, %v", textOf(a), textOf(b), textOf(c), whole, parts)
		}
	})
	times.enough(t, 1000)
}

// P5.7: a quotient times b is not greater than a, and differs by less than b divided by 10, scale times.
func TestQuotient(t *testing.T) {
	times := done{"in range": 0}
	scale := 0
	everyPair(t, func(a, b api.Decimal) {
		scale = (scale + 1) % (most + 1)
		q, e := decimal.Div(a, b, scale)
		if e != api.OK {
			return
		}
		times["in range"]++
		whole := new(big.Rat).Abs(numberOf(a))
		product := new(big.Rat).Mul(numberOf(q), numberOf(b))
		left := new(big.Rat).Sub(whole, new(big.Rat).Abs(product))
		unit := new(big.Rat).Mul(new(big.Rat).Abs(numberOf(b)), by10(big.NewInt(1), scale))
		if left.Sign() < 0 || left.Cmp(unit) >= 0 || product.Sign() != 0 && product.Sign() != numberOf(a).Sign() || q.Scale > scale {
			t.Errorf("Div(%s, %s, %d): %v", textOf(a), textOf(b), scale, q)
		}
	})
	times.enough(t, 1000)
}

// P5.7: Round differs from its number by at most half of its last digit, and is even if it differs by half of it.
func TestNear(t *testing.T) {
	times := done{"half": 0, "less": 0}
	check := func(a api.Decimal, scale int) {
		b, e := decimal.Round(a, scale)
		difference := new(big.Rat).Sub(numberOf(a), numberOf(b))
		double := times10(difference.Abs(difference).Mul(difference, big.NewRat(2, 1)), scale)
		c := double.Cmp(big.NewRat(1, 1))
		if e != api.OK || c > 0 || b.Scale > scale {
			t.Errorf("Round(%s, %d): %v, %d", textOf(a), scale, b, e)
		}
		if c < 0 {
			times["less"]++
			return
		}
		times["half"]++
		if times10(numberOf(b), scale).Num().Bit(0) != 0 {
			t.Errorf("Round(%s, %d): %v is odd", textOf(a), scale, b)
		}
	}
	randoms(t, 20000, func(r *rand.Rand) {
		a := randomDecimal(r)
		check(a, r.IntN(most+1))
		check(a, max(0, a.Scale-1))
	})
	times.enough(t, 300)
}
