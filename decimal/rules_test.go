package decimal_test

import (
	"math/rand/v2"
	"reflect"
	"slices"
	"strings"
	"sync"
	"testing"

	"gabarit/api"
	"gabarit/decimal"
)

// arguments are those of the functions of the package.
type arguments struct {
	a, b  api.Decimal
	s     string
	n     int64
	scale int
}

// result is what a function returns: all results but the error, and the error.
type result struct {
	what   string
	values []any
	e      api.Errno
}

// results calls every function of the package.
func results(g arguments) []result {
	var l []result
	add := func(what string, x any, e api.Errno) { l = append(l, result{what, []any{x}, e}) }
	l = append(l, result{"Check", nil, decimal.Check(g.a)}, result{"Of", []any{decimal.Of(g.n)}, api.OK})
	for _, p := range pairs {
		x, e := p.f(g.a, g.b)
		add(p.what, x, e)
	}
	x, e := decimal.Read(g.s)
	add("Read", x, e)
	x, e = decimal.Div(g.a, g.b, g.scale)
	add("Div", x, e)
	x, e = decimal.Neg(g.a)
	add("Neg", x, e)
	x, e = decimal.Round(g.a, g.scale)
	add("Round", x, e)
	s, e := decimal.Text(g.a)
	add("Text", s, e)
	c, e := decimal.Cmp(g.a, g.b)
	add("Cmp", c, e)
	total, fraction, e := decimal.Digits(g.a)
	return append(l, result{"Digits", []any{total, fraction}, e})
}

// randomArguments are arguments of which some are not valid.
func randomArguments(r *rand.Rand) arguments {
	bad := notValid()
	one := func() api.Decimal {
		a := randomDecimal(r)
		switch r.IntN(12) {
		case 0:
			return bad[r.IntN(len(bad))]
		case 1:
			a.Scale = int(int64(r.Uint64()) >> r.IntN(64))
		case 2:
			a.Digits += []string{"0", "x", "\xff", zeros(70)}[r.IntN(4)]
		}
		return a
	}
	a, b := one(), one()
	s := textOf(randomDecimal(r))
	if r.IntN(3) == 0 {
		at := r.IntN(len(s) + 1)
		s = s[:at] + []string{"", "0", ".", "-", "+", " ", "\x00", "\xff", "é", nines(40)}[r.IntN(10)] + s[at:]
	}
	scale := r.IntN(most+3) - 1
	if r.IntN(9) == 0 {
		scale = int(int64(r.Uint64()) >> r.IntN(64))
	}
	return arguments{a, b, s, int64(r.Uint64()) >> r.IntN(64), scale}
}

// R1, R2: for all arguments, every function returns; with an error, all other results are zero; without one, decimals are valid.
func TestAllArguments(t *testing.T) {
	check := func(g arguments) {
		for _, x := range results(g) {
			for _, v := range x.values {
				if x.e != api.OK && !reflect.ValueOf(v).IsZero() {
					t.Errorf("%s(%.500v): %v with the error %d", x.what, g, v, x.e)
				}
				if a, ok := v.(api.Decimal); ok && x.e == api.OK && !isValid(a) {
					t.Errorf("%s(%.500v): %v is not valid", x.what, g, a)
				}
			}
			if !slices.Contains([]api.Errno{api.OK, api.ErrArg, api.ErrForm, api.ErrRange}, x.e) || x.e == api.ErrForm && x.what != "Read" {
				t.Errorf("%s(%.500v): the error %d", x.what, g, x.e)
			}
		}
	}
	l := append(notValid(), edges()[:30]...)
	for i, a := range l {
		for k, b := range l {
			check(arguments{a, b, b.Digits, int64(i - k), []int{-1 << 63, -1, 0, 30, 60, 61, 1<<63 - 1}[(i+k)%7]})
		}
	}
	randoms(t, 20000, func(r *rand.Rand) { check(randomArguments(r)) })
}

// R2: an argument that is not valid comes before a result that is out of range, and a wrong form before a number that is.
func TestFirstError(t *testing.T) {
	large, small := d(nines(60)), d("0."+zeros(59)+"1")
	if _, e := decimal.Div(large, small, most); e != api.ErrRange {
		t.Errorf("Div out of range: %d", e)
	}
	for _, scale := range noScales {
		if _, e := decimal.Div(large, small, scale); e != api.ErrArg {
			t.Errorf("Div with the scale %d: %d", scale, e)
		}
	}
	for _, s := range []string{nines(61) + "x", "x" + nines(61), nines(61) + ". ", nines(100) + "." + nines(100) + "."} {
		if _, e := decimal.Read(s); e != api.ErrForm {
			t.Errorf("Read(%s): %d", s, e)
		}
	}
}

// R3: arguments are not changed, and calls with results as arguments do not change these.
func TestArgumentsStay(t *testing.T) {
	randoms(t, 5000, func(r *rand.Rand) {
		g := randomArguments(r)
		was := g
		was.a.Digits, was.b.Digits, was.s = strings.Clone(g.a.Digits), strings.Clone(g.b.Digits), strings.Clone(g.s)
		first := results(g)
		kept := results(g)
		for _, x := range first {
			for _, v := range x.values {
				if a, ok := v.(api.Decimal); ok {
					results(arguments{a, g.b, a.Digits, g.n, g.scale})
				}
			}
		}
		if g != was || !reflect.DeepEqual(first, kept) {
			t.Errorf("changed: %.1000v, now %.1000v", was, g)
		}
	})
}

// R6: results depend only on the arguments, whatever else is called before, or at the same time.
func TestSameAgain(t *testing.T) {
	var all []arguments
	var want [][]result
	randoms(t, 500, func(r *rand.Rand) {
		g := randomArguments(r)
		all = append(all, g)
		want = append(want, results(g))
	})
	var group sync.WaitGroup
	for range 4 {
		group.Go(func() {
			for i := len(all) - 1; i >= 0; i-- {
				if again := results(all[i]); !reflect.DeepEqual(again, want[i]) {
					t.Errorf("%.500v: %v, then %v", all[i], want[i], again)
				}
			}
		})
	}
	group.Wait()
}

// R7: texts that are large.
func TestLarge(t *testing.T) {
	huge := api.Decimal{Digits: nines(5000000), Scale: 3}
	for _, x := range results(arguments{a: huge, b: huge, s: "1"}) {
		if x.e != api.ErrArg && x.what != "Of" && x.what != "Read" {
			t.Errorf("%s of 5000000 digits: %d", x.what, x.e)
		}
	}
	many := zeros(5000000)
	for s, want := range map[string]api.Decimal{many: d("0"), "-" + many + "7." + many: d("-7"), many + ".5" + many: d("0.5"), "." + many: d("0"), many + nines(60) + ".": d(nines(60))} {
		if a, e := decimal.Read(s); a != want || e != api.OK {
			t.Errorf("Read of %d bytes: %v, %d", len(s), a, e)
		}
	}
	for s, want := range map[string]api.Errno{"1" + many: api.ErrRange, "." + many + "1": api.ErrRange, many + nines(61): api.ErrRange, many + "x": api.ErrForm, many + "." + many + ".": api.ErrForm} {
		if a, e := decimal.Read(s); !isNothing(a) || e != want {
			t.Errorf("Read of %d bytes: %v, %d", len(s), a, e)
		}
	}
}
