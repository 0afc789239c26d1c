package moment_test

import (
	"math/rand/v2"
	"strconv"
	"testing"

	"gabarit/api"
	"gabarit/moment"
)

// checks compares Check with the definition.
func checks(t *testing.T, m api.Moment) {
	t.Helper()
	want := api.ErrArg
	if isValid(m) {
		want = api.OK
	}
	if e := moment.Check(m); e != want {
		t.Errorf("Check(%v): %d, want %d", m, e, want)
	}
}

// P6.1: Check tells which moments are valid.
func TestCheck(t *testing.T) {
	for _, m := range edges() {
		if e := moment.Check(m); e != api.OK {
			t.Errorf("Check(%v): %d", m, e)
		}
	}
	for _, m := range notValid() {
		if e := moment.Check(m); e != api.ErrArg {
			t.Errorf("Check(%v): %d", m, e)
		}
	}
}

// P6.1: every month of years of each sort, with days around its last one.
func TestCheckDays(t *testing.T) {
	valid := 0
	for _, year := range []int{-10000, -9999, -9998, -9997, -402, -401, -400, -102, -101, -100, -99, -6, -5, -4, -3, -2, -1, 0, 1, 2, 3, 4, 5, 8, 96, 99, 100, 101, 104, 200, 300, 399, 400, 401, 800, 1600, 1700, 1800, 1900, 1904, 1999, 2000, 2001, 2004, 2020, 2021, 2022, 2023, 2024, 2025, 2100, 2400, 9996, 9998, 9999, 10000, 10004} {
		for month := -1; month <= 14; month++ {
			for day := -1; day <= 33; day++ {
				m := date(year, month, day)
				checks(t, m)
				checks(t, both(m, clock(0, 0, "0")))
				if isValid(m) {
					valid++
				}
			}
		}
	}
	// 53 of these years are valid, and 18 of them long.
	if valid != 53*365+18 {
		t.Errorf("%d of them are valid", valid)
	}
}

// P6.1: every hour, minute, second and zone around the first and the last one.
func TestCheckTimes(t *testing.T) {
	for n := -70; n <= 70; n++ {
		for k := -2; k <= 61; k++ {
			checks(t, clock(n, k, "0"))
			checks(t, in(clock(k, n, "59.5"), 0))
		}
		second := strconv.Itoa(n)
		for _, behind := range []string{"", ".0", ".5", "." + nines(58), "." + zeros(57) + "1"} {
			checks(t, clock(23, 59, second+behind))
			checks(t, both(date(2024, 2, 29), clock(0, 0, second+behind)))
		}
	}
	for scale := -1; scale <= 61; scale++ {
		for _, digits := range []string{"5", "60", "599", "601", "5" + nines(59), "6" + zeros(58) + "1", nines(60)} {
			m := clock(0, 0, "0")
			m.Second = api.Decimal{Digits: digits, Scale: scale}
			checks(t, m)
		}
	}
	for zone := -2000; zone <= 2000; zone++ {
		for _, m := range []api.Moment{date(-1, 2, 29), clock(0, 0, "0"), both(date(1, 1, 1), clock(23, 59, "59.9"))} {
			checks(t, in(m, zone))
			m.Zone = zone
			checks(t, m)
		}
	}
}

// P6.1: fields that a kind does not have are zero.
func TestCheckFields(t *testing.T) {
	randoms(t, 20000, func(r *rand.Rand) {
		m := anyMoment(r)
		other := anyMoment(r)
		for range 1 + r.IntN(2) {
			switch r.IntN(10) {
			case 0:
				m.Kind = other.Kind
			case 1:
				m.Year = other.Year
			case 2:
				m.Month = other.Month
			case 3:
				m.Day = other.Day
			case 4:
				m.Hour = other.Hour
			case 5:
				m.Minute = other.Minute
			case 6:
				m.Second = other.Second
			case 7:
				m.Zoned = other.Zoned
			case 8:
				m.Zone = other.Zone
			}
		}
		checks(t, m)
	})
}
