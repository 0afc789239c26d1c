package moment_test

import (
	"math/big"
	"math/rand/v2"
	"testing"

	"gabarit/api"
	"gabarit/moment"
)

// orderOf is what Cmp returns, straight from the definition.
func orderOf(a, b api.Moment) (order int, told bool, e api.Errno) {
	if !isValid(a) || !isValid(b) || a.Kind != b.Kind {
		return 0, false, api.ErrArg
	}
	p, q := point(a), point(b)
	if a.Zoned == b.Zoned {
		return p.Cmp(q), true, api.OK
	}
	zoned, other := p, q
	if b.Zoned {
		zoned, other = q, p
	}
	apart := big.NewRat(50400, 1)
	if zoned.Cmp(new(big.Rat).Sub(other, apart)) < 0 || zoned.Cmp(new(big.Rat).Add(other, apart)) > 0 {
		return p.Cmp(q), true, api.OK
	}
	return 0, false, api.OK
}

// equalOf is what Equal returns.
func equalOf(a, b api.Moment) (bool, api.Errno) {
	if !isValid(a) || !isValid(b) || a.Kind != b.Kind {
		return false, api.ErrArg
	}
	return a.Zoned == b.Zoned && point(a).Cmp(point(b)) == 0, api.OK
}

// orders compares Cmp and Equal of a and b with the definitions, both ways.
func orders(t *testing.T, a, b api.Moment) (order int, told bool) {
	t.Helper()
	for _, x := range [][2]api.Moment{{b, a}, {a, b}} {
		want, isTold, f := orderOf(x[0], x[1])
		var e api.Errno
		order, told, e = moment.Cmp(x[0], x[1])
		if order != want || told != isTold || e != f {
			t.Errorf("Cmp(%v, %v): %d, %v, %d, want %d, %v, %d", x[0], x[1], order, told, e, want, isTold, f)
		}
		equal, f := equalOf(x[0], x[1])
		if got, e := moment.Equal(x[0], x[1]); got != equal || e != f {
			t.Errorf("Equal(%v, %v): %v, %d, want %v, %d", x[0], x[1], got, e, equal, f)
		}
	}
	return order, told
}

// P6.4: the examples of the chapter, and where orders begin to be told.
func TestOrder(t *testing.T) {
	noon := clock(12, 0, "0")
	d := date(2024, 3, 1)
	for _, c := range []struct {
		a, b  api.Moment
		order int
		told  bool
	}{
		{in(noon, 0), in(clock(13, 0, "0"), 120), 1, true}, {in(noon, 0), noon, 0, false},
		{noon, noon, 0, true}, {in(noon, 60), in(noon, 60), 0, true}, {in(noon, 60), in(clock(11, 0, "0"), 0), 0, true}, {in(noon, 60), in(noon, 0), -1, true}, {noon, clock(12, 0, "0.001"), -1, true}, {clock(12, 1, "0"), clock(12, 0, "59.9"), 1, true}, {in(clock(0, 0, "0"), 1), in(clock(23, 59, "0"), 0), -1, true}, {in(clock(0, 0, "0"), 840), in(clock(23, 59, "59"), -840), -1, true},
		{clock(0, 0, "0."+zeros(59)+"1"), clock(0, 0, "0"), 1, true}, {clock(0, 0, "0."+nines(60)), clock(0, 0, "1"), -1, true}, {in(clock(0, 1, "0."+nines(60)), 1), in(clock(0, 0, "0."+nines(59)+"8"), 0), 1, true}, {clock(0, 0, "59."+nines(58)), clock(0, 1, "0."+zeros(59)+"1"), -1, true},
		{in(clock(0, 0, "0"), 0), clock(14, 0, "0"), 0, false}, {in(clock(0, 0, "0"), 0), clock(14, 0, "0."+zeros(59)+"1"), -1, true}, {in(clock(0, 0, "1"), 0), clock(14, 0, "0"), 0, false}, {in(clock(14, 0, "0"), 0), clock(0, 0, "0"), 0, false}, {in(clock(14, 0, "0.1"), 0), clock(0, 0, "0"), 1, true}, {in(clock(13, 0, "0"), -60), clock(0, 0, "0"), 0, false}, {in(clock(13, 0, "0"), -61), clock(0, 0, "0"), 1, true}, {in(clock(1, 0, "0"), 60), clock(14, 0, "0"), 0, false}, {in(clock(1, 0, "0"), 61), clock(14, 0, "0"), -1, true},
		{d, date(2024, 2, 29), 1, true}, {date(-1, 12, 31), date(1, 1, 1), -1, true}, {date(-2, 1, 1), date(-1, 1, 1), -1, true}, {in(d, 60), in(d, 0), -1, true}, {in(d, 840), in(date(2024, 2, 29), -600), 0, true}, {in(d, 840), in(date(2024, 2, 29), -601), -1, true}, {in(d, 840), in(date(2024, 2, 29), -599), 1, true}, {in(d, 0), d, 0, false}, {in(d, 840), d, 0, false}, {in(d, -840), d, 0, false}, {in(d, 0), date(2024, 3, 2), -1, true}, {in(d, 0), date(2024, 2, 29), 1, true}, {in(d, -600), date(2024, 3, 2), 0, false}, {in(d, -599), date(2024, 3, 2), -1, true}, {in(d, 600), date(2024, 2, 29), 0, false}, {in(d, 599), date(2024, 2, 29), 1, true},
		{in(both(d, noon), 0), both(d, noon), 0, false}, {in(both(d, noon), 0), both(date(2024, 3, 2), clock(2, 0, "0")), 0, false}, {in(both(d, noon), 0), both(date(2024, 3, 2), clock(2, 0, "0.5")), -1, true}, {in(both(d, noon), 0), both(date(2024, 2, 29), clock(22, 0, "0")), 0, false}, {in(both(d, noon), 0), both(date(2024, 2, 29), clock(21, 59, "59.9")), 1, true}, {in(both(date(1, 1, 1), clock(0, 0, "0")), 1), in(both(date(-1, 12, 31), clock(23, 59, "0")), 0), 0, true},
		{both(date(lastYear, 12, 31), clock(23, 59, "59."+nines(58))), both(date(-lastYear, 1, 1), clock(0, 0, "0."+zeros(59)+"1")), 1, true}, {in(both(date(lastYear, 12, 31), clock(23, 59, "59."+nines(58))), -840), both(date(-lastYear, 1, 1), clock(0, 0, "0")), 1, true},
	} {
		for _, x := range []struct {
			a, b  api.Moment
			order int
		}{{c.a, c.b, c.order}, {c.b, c.a, -c.order}} {
			if order, told, e := moment.Cmp(x.a, x.b); order != x.order || told != c.told || e != api.OK {
				t.Errorf("Cmp(%s, %s): %d, %v, %d, want %d, %v", textOf(x.a), textOf(x.b), order, told, e, x.order, c.told)
			}
			if equal, e := moment.Equal(x.a, x.b); equal != (c.told && c.order == 0) || e != api.OK {
				t.Errorf("Equal(%s, %s): %v, %d", textOf(x.a), textOf(x.b), equal, e)
			}
		}
		orders(t, c.a, c.b)
	}
}

// near is a moment of the kind of m whose point is often near that of m, with a zone or without, or ErrRange.
func near(r *rand.Rand, m api.Moment) (api.Moment, api.Errno) {
	seconds := oneOf(r, 0, 0, 50400, -50400, 50400+r.Int64N(121)-60, -50400+r.Int64N(121)-60, r.Int64N(200001)-100000)
	zone := oneOf(r, 0, 60, -60, 840, -840, r.IntN(1681)-840)
	p := new(big.Rat).Add(point(m), big.NewRat(seconds+60*int64(zone), 1))
	p.Add(p, oneOf(r, new(big.Rat), new(big.Rat), big.NewRat(1, 2), big.NewRat(-1, 1000), new(big.Rat).SetFrac(big.NewInt(1), tens(mostDigits))))
	n, e := momentOf(m.Kind, p)
	if zone != 0 || r.IntN(2) == 0 {
		n = in(n, zone)
	}
	return n, e
}

// P6.4: all pairs of edges of one kind, random ones, and ones that are near each other.
func TestOrders(t *testing.T) {
	type result struct {
		kind, order int
		told, mixed bool
	}
	results := map[result]int{}
	check := func(a, b api.Moment) {
		order, told := orders(t, a, b)
		results[result{a.Kind, order, told, a.Zoned != b.Zoned}]++
	}
	l := edges()
	for i, a := range l {
		for k, b := range l[i:] {
			if a.Kind == b.Kind && (a.Kind != api.MtBoth || k%3 == 0) {
				check(a, b)
			}
		}
	}
	randoms(t, 10000, func(r *rand.Rand) {
		a := anyMoment(r)
		check(a, randomMoment(r, a.Kind))
		if b, e := near(r, a); e == api.OK {
			check(a, b)
		}
	})
	for _, kind := range kinds {
		for _, x := range []result{{kind, -1, true, false}, {kind, 0, true, false}, {kind, 1, true, false}, {kind, -1, true, true}, {kind, 1, true, true}, {kind, 0, false, true}} {
			if results[x] < 100 {
				t.Errorf("%v: only %d times", x, results[x])
			}
		}
	}
	if len(results) != 18 {
		t.Errorf("results %v", results)
	}
}

// P6.4: what is not valid, and moments of different kinds.
func TestOrderNotValid(t *testing.T) {
	check := func(a, b api.Moment) {
		for _, x := range [][2]api.Moment{{a, b}, {b, a}} {
			if order, told, e := moment.Cmp(x[0], x[1]); order != 0 || told || e != api.ErrArg {
				t.Errorf("Cmp(%v): %d, %v, %d", x, order, told, e)
			}
			if equal, e := moment.Equal(x[0], x[1]); equal || e != api.ErrArg {
				t.Errorf("Equal(%v): %v, %d", x, equal, e)
			}
		}
	}
	l := edges()
	for i, a := range notValid() {
		check(a, a)
		for k, b := range l {
			if a.Kind == b.Kind || (i+k)%17 == 0 {
				check(a, b)
			}
		}
	}
	for i, a := range l {
		for k, b := range l {
			if a.Kind != b.Kind && (i+k)%5 == 0 {
				check(a, b)
			}
		}
	}
}

// P6.6: the order is that of a partial order.
func TestPartialOrder(t *testing.T) {
	times := 0
	randoms(t, 20000, func(r *rand.Rand) {
		b := anyMoment(r)
		a, e := near(r, b)
		c, f := near(r, b)
		if e != api.OK || f != api.OK {
			return
		}
		for _, m := range []api.Moment{a, b, c} {
			order, told, _ := moment.Cmp(m, m)
			equal, _ := moment.Equal(m, m)
			if order != 0 || !told || !equal {
				t.Errorf("Cmp(%s, itself): %d, %v, %v", textOf(m), order, told, equal)
			}
		}
		first, _, _ := moment.Cmp(a, b)
		second, _, _ := moment.Cmp(b, c)
		if first == 0 || first != second {
			return
		}
		if first > 0 {
			a, c = c, a
		}
		times++
		order, _, _ := moment.Cmp(a, c)
		equal, _ := moment.Equal(a, c)
		if order > 0 || equal {
			t.Errorf("%s, %s, %s: %d, %v", textOf(a), textOf(b), textOf(c), order, equal)
		}
	})
	if times < 1000 {
		t.Errorf("only %d times", times)
	}
}
