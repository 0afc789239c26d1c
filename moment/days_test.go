package moment_test

import (
	"math/big"
	"math/rand/v2"
	"testing"

	"gabarit/api"
	"gabarit/moment"
)

// P6.3: the examples of the chapter, and where the calendar begins and ends.
func TestDays(t *testing.T) {
	for m, want := range map[api.Moment]int64{
		date(1, 1, 1): 0, date(-1, 12, 31): -1, date(2000, 1, 1): 730119,
		date(1, 1, 2): 1, date(1, 2, 1): 31, date(1, 3, 1): 59, date(2, 1, 1): 365, date(5, 1, 1): 1461, date(101, 1, 1): 36524, date(401, 1, 1): 146097, date(-1, 1, 1): -366, date(-1, 2, 29): -307, date(-2, 12, 31): -367, date(-401, 1, 1): -146463, date(-400, 1, 1): -146097, date(1970, 1, 1): 719162, date(lastYear, 12, 31): 3652058, date(-lastYear, 1, 1): -3652060,
	} {
		if n, e := moment.Days(m); n != want || e != api.OK {
			t.Errorf("Days(%v): %d, %d, want %d", m, n, e, want)
		}
		if hasDate(m.Kind) && days(m) != want {
			t.Errorf("%v: %d, and by the other calendar %d", m, want, days(m))
		}
	}
	check := func(m api.Moment) {
		want, f := int64(0), api.ErrArg
		if hasDate(m.Kind) {
			want, f = days(m), api.OK
		}
		if n, e := moment.Days(m); n != want || e != f {
			t.Errorf("Days(%v): %d, %d, want %d, %d", m, n, e, want, f)
		}
	}
	for _, m := range edges() {
		check(m)
	}
	randoms(t, 20000, func(r *rand.Rand) { check(anyMoment(r)) })
	for _, m := range notValid() {
		if n, e := moment.Days(m); n != 0 || e != api.ErrArg {
			t.Errorf("Days(%v): %d, %d", m, n, e)
		}
	}
}

// P6.3, P6.7: the day after a day has the next day number, from the first day of all to the last one.
func TestEachDay(t *testing.T) {
	number := int64(-3652060)
	for year := -lastYear; year <= lastYear; year++ {
		if year == 0 {
			continue
		}
		for month := 1; month <= 12; month++ {
			for day := 1; day <= lastDay(year, month); day++ {
				if n, e := moment.Days(date(year, month, day)); n != number || e != api.OK {
					t.Fatalf("Days of %d-%d-%d: %d, %d, want %d", year, month, day, n, e, number)
				}
				number++
			}
		}
	}
}

// normalOf is what Normal returns.
func normalOf(m api.Moment) (api.Moment, api.Errno) {
	if !isValid(m) || !m.Zoned || m.Kind == api.MtDate {
		return api.Moment{}, api.ErrArg
	}
	normal, e := momentOf(m.Kind, point(m))
	if e != api.OK {
		return api.Moment{}, e
	}
	return in(normal, 0), api.OK
}

// P6.3: Normal, with the examples of the chapter.
func TestNormal(t *testing.T) {
	first, last := date(-lastYear, 1, 1), date(lastYear, 12, 31)
	for _, c := range []struct{ m, want api.Moment }{
		{in(both(date(2024, 3, 1), clock(12, 0, "5.5")), 60), in(both(date(2024, 3, 1), clock(11, 0, "5.5")), 0)},
		{in(clock(0, 30, "0"), 60), in(clock(23, 30, "0"), 0)},
		{in(clock(23, 30, "59.9"), -60), in(clock(0, 30, "59.9"), 0)}, {in(clock(12, 0, "0"), 0), in(clock(12, 0, "0"), 0)}, {in(clock(0, 0, "0"), 840), in(clock(10, 0, "0"), 0)}, {in(clock(23, 59, "0."+nines(60)), -840), in(clock(13, 59, "0."+nines(60)), 0)}, {in(clock(14, 0, "0"), 840), in(clock(0, 0, "0"), 0)}, {in(clock(10, 0, "1"), -840), in(clock(0, 0, "1"), 0)},
		{in(both(date(2024, 3, 1), clock(0, 0, "0")), 1), in(both(date(2024, 2, 29), clock(23, 59, "0")), 0)}, {in(both(date(2023, 3, 1), clock(0, 0, "0")), 1), in(both(date(2023, 2, 28), clock(23, 59, "0")), 0)}, {in(both(date(1, 1, 1), clock(0, 0, "0")), 1), in(both(date(-1, 12, 31), clock(23, 59, "0")), 0)}, {in(both(date(-1, 12, 31), clock(23, 59, "59.5")), -1), in(both(date(1, 1, 1), clock(0, 0, "59.5")), 0)}, {in(both(date(1999, 12, 31), clock(12, 0, "0")), -840), in(both(date(2000, 1, 1), clock(2, 0, "0")), 0)},
		{in(both(last, clock(23, 0, "0")), -59), in(both(last, clock(23, 59, "0")), 0)}, {in(both(first, clock(1, 0, "0")), 60), in(both(first, clock(0, 0, "0")), 0)},
		{in(both(last, clock(23, 0, "0")), -60), api.Moment{}}, {in(both(last, clock(23, 59, "59.9")), -1), api.Moment{}}, {in(both(first, clock(0, 59, "59.9")), 60), api.Moment{}}, {in(both(first, clock(0, 0, "0")), 840), api.Moment{}},
	} {
		f := api.OK
		if isNothing(c.want) {
			f = api.ErrRange
		}
		if got, e := moment.Normal(c.m); got != c.want || e != f {
			t.Errorf("Normal(%s): %v, %d, want %v", textOf(c.m), got, e, c.want)
		}
	}
	results := map[api.Errno]int{}
	check := func(m api.Moment) {
		want, f := normalOf(m)
		got, e := moment.Normal(m)
		if got != want || e != f {
			t.Errorf("Normal(%v): %v, %d, want %v, %d", m, got, e, want, f)
		}
		results[e]++
	}
	for _, m := range append(edges(), notValid()...) {
		check(m)
	}
	for _, d := range dates() {
		for _, c := range clocks() {
			for _, zone := range zones {
				check(in(both(d, c), zone))
			}
		}
	}
	randoms(t, 20000, func(r *rand.Rand) { check(anyMoment(r)) })
	if len(results) != 3 || results[api.ErrRange] < 100 {
		t.Errorf("results %v", results)
	}
}

// P6.3: what has no zone, and dates alone.
func TestNormalNotZoned(t *testing.T) {
	for _, d := range dates() {
		for _, m := range []api.Moment{d, in(d, 0), in(d, 60), both(d, clock(1, 2, "3"))} {
			if got, e := moment.Normal(m); !isNothing(got) || e != api.ErrArg {
				t.Errorf("Normal(%s): %v, %d", textOf(m), got, e)
			}
		}
	}
	for _, m := range append(clocks(), notValid()...) {
		if got, e := moment.Normal(m); !isNothing(got) || e != api.ErrArg {
			t.Errorf("Normal(%v): %v, %d", m, got, e)
		}
	}
}

// P6.7: Normal keeps points, so what it returns is equal to what it is given; for a time, points differ by whole days.
func TestNormalKeepsPoints(t *testing.T) {
	times := 0
	check := func(m api.Moment) {
		normal, e := moment.Normal(m)
		if e != api.OK {
			return
		}
		times++
		difference := new(big.Rat).Sub(point(normal), point(m))
		if m.Kind == api.MtTime {
			if !difference.Quo(difference, big.NewRat(86400, 1)).IsInt() {
				t.Errorf("Normal(%s): %s", textOf(m), textOf(normal))
			}
			return
		}
		equal, e := moment.Equal(m, normal)
		order, told, f := moment.Cmp(m, normal)
		if difference.Sign() != 0 || !equal || order != 0 || !told || e != api.OK || f != api.OK || normal.Zone != 0 || !normal.Zoned {
			t.Errorf("Normal(%s): %s, %v, %d", textOf(m), textOf(normal), equal, order)
		}
		if again, e := moment.Normal(normal); again != normal || e != api.OK {
			t.Errorf("Normal(%s): %v, %d", textOf(normal), again, e)
		}
	}
	for _, m := range edges() {
		check(m)
	}
	randoms(t, 20000, func(r *rand.Rand) { check(anyMoment(r)) })
	if times < 1000 {
		t.Errorf("only %d of them have a normal one", times)
	}
}
