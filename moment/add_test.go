package moment_test

import (
	"math/big"
	"math/rand/v2"
	"testing"

	"gabarit/api"
	"gabarit/decimal"
	"gabarit/moment"
)

// addOf is what Add returns, straight from the definition; the months go on one by one.
func addOf(m api.Moment, months int, seconds api.Decimal) (api.Moment, api.Errno) {
	if !isValid(m) || decimal.Check(seconds) != api.OK || months < -300000 || months > 300000 || m.Kind == api.MtTime && months != 0 {
		return api.Moment{}, api.ErrArg
	}
	number := numberOf(seconds)
	if new(big.Rat).Abs(number).Cmp(new(big.Rat).SetInt(tens(12))) >= 0 {
		return api.Moment{}, api.ErrRange
	}
	if m.Kind != api.MtTime {
		m.Year, m.Month = monthsOn(m.Year, m.Month, months)
		if m.Year < -lastYear || m.Year > lastYear {
			return api.Moment{}, api.ErrRange
		}
		m.Day = min(m.Day, lastDay(m.Year, m.Month))
	}
	zoned, zone := m.Zoned, m.Zone
	m.Zoned, m.Zone = false, 0
	m, e := momentOf(m.Kind, number.Add(number, point(m)))
	if e == api.OK {
		m.Zoned, m.Zone = zoned, zone
	}
	return m, e
}

// monthsOn is the month so many months behind a month.
func monthsOn(year, month, months int) (int, int) {
	for range max(months, 0) {
		if month++; month > 12 {
			month = 1
			if year++; year == 0 {
				year = 1
			}
		}
	}
	for range max(-months, 0) {
		if month--; month < 1 {
			month = 12
			if year--; year == 0 {
				year = -1
			}
		}
	}
	return year, month
}

// adds compares Add with the definition, and returns the error.
func adds(t *testing.T, m api.Moment, months int, seconds api.Decimal) api.Errno {
	t.Helper()
	want, f := addOf(m, months, seconds)
	got, e := moment.Add(m, months, seconds)
	if got != want || e != f {
		t.Errorf("Add(%v, %d, %v): %v, %d, want %v, %d", m, months, seconds, got, e, want, f)
	}
	return e
}

// added is one use of Add; nothing is wanted of what is out of range.
type added struct {
	m       api.Moment
	months  int
	seconds string
	want    api.Moment
}

func (c added) check(t *testing.T) {
	t.Helper()
	f := api.OK
	if isNothing(c.want) {
		f = api.ErrRange
	}
	if got, e := moment.Add(c.m, c.months, dec(c.seconds)); got != c.want || e != f {
		t.Errorf("Add(%s, %d, %s): %v, %d, want %v", textOf(c.m), c.months, c.seconds, got, e, c.want)
	}
	adds(t, c.m, c.months, dec(c.seconds))
}

// P6.5: months, with the example of the chapter.
func TestAddMonths(t *testing.T) {
	odd := clock(1, 2, "3.5")
	for _, c := range []added{
		{date(2024, 1, 31), 1, "0", date(2024, 2, 29)},
		{date(2023, 1, 31), 1, "0", date(2023, 2, 28)}, {date(2024, 1, 30), 1, "0", date(2024, 2, 29)}, {date(2024, 1, 29), 1, "0", date(2024, 2, 29)}, {date(2024, 1, 28), 1, "0", date(2024, 2, 28)}, {date(2024, 2, 29), 12, "0", date(2025, 2, 28)}, {date(2024, 2, 29), 48, "0", date(2028, 2, 29)}, {date(2024, 2, 29), -12, "0", date(2023, 2, 28)}, {date(2024, 3, 31), -1, "0", date(2024, 2, 29)}, {date(2024, 3, 31), 1, "0", date(2024, 4, 30)}, {date(2024, 12, 31), 1, "0", date(2025, 1, 31)}, {date(2024, 1, 31), -1, "0", date(2023, 12, 31)}, {date(2024, 12, 1), -12, "0", date(2023, 12, 1)}, {date(2024, 1, 1), -12, "0", date(2023, 1, 1)}, {date(2024, 1, 1), 11, "0", date(2024, 12, 1)}, {date(2024, 5, 31), 0, "0", date(2024, 5, 31)},
		{date(-1, 12, 31), 1, "0", date(1, 1, 31)}, {date(1, 1, 31), -1, "0", date(-1, 12, 31)}, {date(-1, 1, 29), 1, "0", date(-1, 2, 29)}, {date(-1, 1, 31), 1, "0", date(-1, 2, 29)}, {date(1, 1, 31), 1, "0", date(1, 2, 28)}, {date(-2, 2, 28), 12, "0", date(-1, 2, 28)}, {date(-1, 2, 29), 12, "0", date(1, 2, 28)}, {date(4, 2, 29), -48, "0", date(-1, 2, 29)}, {date(4, 2, 29), -49, "0", date(-1, 1, 29)}, {date(-5, 3, 31), -1, "0", date(-5, 2, 29)}, {date(-1, 6, 15), 6, "0", date(-1, 12, 15)}, {date(-2, 12, 15), 1, "0", date(-1, 1, 15)}, {date(1, 6, 15), -18, "0", date(-2, 12, 15)},
		{in(date(2024, 1, 31), 60), 1, "0", in(date(2024, 2, 29), 60)}, {both(date(2024, 1, 31), odd), 1, "0", both(date(2024, 2, 29), odd)}, {in(both(date(2024, 1, 31), odd), -840), -23, "0", in(both(date(2022, 2, 28), odd), -840)},
		{date(lastYear, 12, 31), 1, "0", api.Moment{}}, {date(lastYear, 11, 30), 1, "0", date(lastYear, 12, 30)}, {date(-lastYear, 1, 1), -1, "0", api.Moment{}}, {date(-lastYear, 2, 28), -1, "0", date(-lastYear, 1, 28)}, {date(2024, 1, 1), 300000, "0", api.Moment{}}, {date(2024, 1, 1), -300000, "0", api.Moment{}}, {date(-lastYear, 1, 31), 239975, "0", date(lastYear, 12, 31)}, {date(-lastYear, 1, 1), 239976, "0", api.Moment{}}, {date(lastYear, 12, 31), -239975, "0", date(-lastYear, 1, 31)}, {date(lastYear, 12, 31), -239976, "0", api.Moment{}},
		{date(2024, 1, 31), 1, "86400", date(2024, 3, 1)}, {date(2023, 1, 31), 1, "-86400", date(2023, 2, 27)}, {both(date(2024, 1, 31), clock(23, 0, "0")), 1, "3600", both(date(2024, 3, 1), clock(0, 0, "0"))},
		// The year behind the months counts, also if the seconds would lead back.
		{date(lastYear, 12, 1), 1, "-8640000", api.Moment{}}, {date(-lastYear, 1, 31), -1, "8640000", api.Moment{}}, {in(both(date(lastYear, 12, 31), odd), 0), 1, "-5000000", api.Moment{}}, {date(lastYear, 12, 1), 0, "-8640000", date(lastYear, 8, 23)},
	} {
		c.check(t)
	}
	for month := 1; month <= 12; month++ {
		for _, year := range []int{-9999, -401, -102, -101, -5, -2, -1, 1, 4, 1899, 1900, 2000, 2023, 2024, 9999} {
			for months := -40; months <= 40; months++ {
				adds(t, date(year, month, lastDay(year, month)), months, dec("0"))
				adds(t, in(both(date(year, month, 28), odd), 840), months, dec("0"))
			}
		}
	}
}

// P6.5: seconds, with the example of the chapter.
func TestAddSeconds(t *testing.T) {
	first, last := date(-lastYear, 1, 1), date(lastYear, 12, 31)
	end := clock(23, 59, "59.9")
	for _, c := range []added{
		{clock(23, 59, "59.75"), 0, "0.5", clock(0, 0, "0.25")},
		{clock(0, 0, "0.25"), 0, "-0.5", clock(23, 59, "59.75")}, {clock(12, 0, "0"), 0, "86400", clock(12, 0, "0")}, {clock(12, 0, "0"), 0, "-86400", clock(12, 0, "0")}, {clock(12, 0, "0"), 0, "3661.5", clock(13, 1, "1.5")}, {clock(12, 0, "0"), 0, "-3661.5", clock(10, 58, "58.5")}, {clock(0, 0, "0"), 0, "-1", clock(23, 59, "59")}, {clock(12, 30, "40"), 0, "20", clock(12, 31, "0")}, {clock(12, 30, "40"), 0, "19.99", clock(12, 30, "59.99")}, {clock(12, 30, "40.5"), 0, "-40.5", clock(12, 30, "0")}, {clock(12, 30, "40.5"), 0, "0", clock(12, 30, "40.5")}, {in(clock(23, 0, "0"), 60), 0, "7200", in(clock(1, 0, "0"), 60)}, {in(clock(0, 0, "0"), -840), 0, "-1", in(clock(23, 59, "59"), -840)}, {clock(0, 0, "0"), 0, nines(12), clock(1, 46, "39")}, {clock(0, 0, "0"), 0, "-" + nines(12), clock(22, 13, "21")}, {clock(0, 0, "0"), 0, nines(12) + "." + nines(48), clock(1, 46, "39."+nines(48))},
		{date(2024, 2, 28), 0, "86400", date(2024, 2, 29)}, {date(2024, 2, 28), 0, "86399.999", date(2024, 2, 28)}, {date(2024, 2, 28), 0, "172800", date(2024, 3, 1)}, {date(2024, 2, 28), 0, "0.5", date(2024, 2, 28)}, {date(2024, 2, 28), 0, "-0.5", date(2024, 2, 27)}, {date(2024, 2, 28), 0, "-86400", date(2024, 2, 27)}, {date(2024, 2, 28), 0, "-86400.001", date(2024, 2, 26)}, {date(1, 1, 1), 0, "-1", date(-1, 12, 31)}, {date(-1, 12, 31), 0, "86400", date(1, 1, 1)}, {in(date(2024, 2, 28), 840), 0, "86400", in(date(2024, 2, 29), 840)}, {in(date(2024, 2, 28), -840), 0, "-1", in(date(2024, 2, 27), -840)}, {date(1, 1, 1), 0, "0." + nines(60), date(1, 1, 1)}, {date(1, 1, 1), 0, "-0." + nines(60), date(-1, 12, 31)}, {date(1, 1, 1), 0, "-0." + zeros(59) + "1", date(-1, 12, 31)}, {date(1, 1, 1), 0, nines(11), date(3169, 11, 16)}, {date(1, 1, 1), 0, "-" + nines(11), date(-3169, 2, 16)},
		{both(date(2024, 2, 28), end), 0, "0.1", both(date(2024, 2, 29), clock(0, 0, "0"))}, {both(date(2024, 3, 1), clock(0, 0, "0")), 0, "-0.1", both(date(2024, 2, 29), end)}, {both(date(-1, 12, 31), end), 0, "0.2", both(date(1, 1, 1), clock(0, 0, "0.1"))}, {both(date(1, 1, 1), clock(0, 0, "0")), 0, "-0." + nines(58), both(date(-1, 12, 31), clock(23, 59, "59."+zeros(57)+"1"))}, {in(both(date(1999, 12, 31), end), 60), 0, "100", in(both(date(2000, 1, 1), clock(0, 1, "39.9")), 60)},
		{last, 0, "86399.9", last}, {last, 0, "86400", api.Moment{}}, {first, 0, "0", first}, {first, 0, "-0.1", api.Moment{}}, {both(last, end), 0, "0.09", both(last, clock(23, 59, "59.99"))}, {both(last, end), 0, "0.1", api.Moment{}}, {both(first, clock(0, 0, "0.1")), 0, "-0.1", both(first, clock(0, 0, "0"))}, {both(first, clock(0, 0, "0.1")), 0, "-0.2", api.Moment{}}, {date(1, 1, 1), 0, nines(12), api.Moment{}}, {date(1, 1, 1), 0, "-" + nines(12), api.Moment{}}, {in(last, -840), 0, "1", in(last, -840)}, {in(both(last, end), -840), 0, "0", in(both(last, end), -840)},
	} {
		c.check(t)
	}
}

// P6.5: the second has a decimal, or has none; how many digits the numbers on the way would have does not matter.
func TestAddDigits(t *testing.T) {
	tiny := "0." + zeros(59) + "1"
	for _, c := range []added{
		{clock(0, 0, "0"), 0, tiny, clock(0, 0, tiny)}, {clock(0, 0, "0."+nines(60)), 0, tiny, clock(0, 0, "1")}, {clock(0, 0, tiny), 0, "-" + tiny, clock(0, 0, "0")}, {clock(0, 0, "0."+nines(60)), 0, "-0." + nines(60), clock(0, 0, "0")}, {clock(0, 0, tiny), 0, "60", clock(0, 1, tiny)},
		{clock(23, 59, "59."+nines(58)), 0, "0." + nines(60), clock(0, 0, "0."+nines(57)+"899")}, {clock(0, 0, "59.5"), 0, "0.5" + zeros(58) + "1", clock(0, 1, tiny)}, {clock(0, 0, "0.5"+zeros(58)+"1"), 0, "59.5", clock(0, 1, tiny)}, {clock(0, 1, tiny), 0, "-60", clock(0, 0, tiny)}, {clock(0, 0, "30.5"), 0, "-30.4" + nines(57), clock(0, 0, "0.0"+zeros(56)+"1")}, {clock(0, 0, "0."+nines(60)), 0, "0." + nines(60), api.Moment{}},
		{clock(0, 0, "0"), 0, "-" + tiny, api.Moment{}}, {clock(0, 0, "10"), 0, tiny, api.Moment{}}, {clock(0, 0, "1"), 0, tiny, api.Moment{}}, {clock(0, 0, tiny), 0, "1", api.Moment{}}, {clock(0, 0, tiny), 0, "3659", api.Moment{}}, {clock(0, 0, tiny), 0, "3660", clock(1, 1, tiny)}, {clock(0, 0, "9."+nines(59)), 0, "1", api.Moment{}}, {clock(0, 0, "9."+nines(59)), 0, "0." + zeros(58) + "1", clock(0, 0, "10")}, {clock(0, 0, "8."+nines(59)), 0, "1", clock(0, 0, "9."+nines(59))}, {clock(0, 0, "9."+nines(59)), 0, "50", api.Moment{}}, {clock(0, 0, "9."+nines(59)), 0, "60", clock(0, 1, "9."+nines(59))},
		{both(date(2024, 2, 29), clock(0, 0, tiny)), 0, nines(11), api.Moment{}}, {both(date(2024, 2, 29), clock(0, 0, tiny)), -1, "-60", both(date(2024, 1, 28), clock(23, 59, tiny))}, {both(date(2024, 2, 29), clock(0, 0, "0."+nines(60))), 0, "60000000000", both(date(3925, 6, 27), clock(10, 40, "0."+nines(60)))},
	} {
		c.check(t)
	}
}

// P6.5: what is not valid, and what is out of range.
func TestAddNotValid(t *testing.T) {
	refused := func(m api.Moment, months int, seconds api.Decimal, want api.Errno) {
		t.Helper()
		if got, e := moment.Add(m, months, seconds); !isNothing(got) || e != want {
			t.Errorf("Add(%v, %d, %v): %v, %d, want %d", m, months, seconds, got, e, want)
		}
	}
	large := []api.Decimal{dec("1" + zeros(12)), dec("-1" + zeros(12)), dec("1" + zeros(12) + ".5"), dec("-1" + zeros(12) + "." + zeros(46) + "1"), dec(nines(60)), dec("-" + nines(60)), dec("1" + zeros(59)), dec("2" + zeros(12))}
	none := []api.Decimal{{}, {Neg: true}, {Digits: "00"}, {Digits: "0", Neg: true}, {Digits: "0", Scale: 1}, {Digits: "10", Scale: 1}, {Digits: "5", Scale: -1}, {Digits: "5", Scale: 61}, {Digits: "x"}, {Digits: nines(61)}, {Digits: "-5"}, {Digits: "5.5"}}
	manyMonths := []int{300001, -300001, 1 << 40, -1 << 63, 1<<63 - 1}
	for _, m := range edges() {
		for _, seconds := range none {
			refused(m, 0, seconds, api.ErrArg)
			refused(m, 300001, seconds, api.ErrArg)
		}
		for _, months := range manyMonths {
			refused(m, months, dec("0"), api.ErrArg)
			refused(m, months, large[0], api.ErrArg)
		}
		for _, seconds := range large {
			refused(m, 0, seconds, api.ErrRange)
		}
		if m.Kind == api.MtTime {
			for _, months := range []int{1, -1, 12, 300000, -300000} {
				refused(m, months, dec("0"), api.ErrArg)
				refused(m, months, large[0], api.ErrArg)
			}
		} else {
			refused(m, 300000, large[1], api.ErrRange)
			refused(m, 300000, dec("0"), api.ErrRange)
			refused(m, -300000, dec("0"), api.ErrRange)
		}
	}
	for _, m := range notValid() {
		for _, seconds := range append(large, dec("0"), none[0]) {
			refused(m, 0, seconds, api.ErrArg)
			refused(m, 1, seconds, api.ErrArg)
		}
	}
}

// randomSeconds are those that Add may be given, often few, or many.
func randomSeconds(r *rand.Rand) api.Decimal {
	a := randomNumber(r, oneOf(r, 0, 1, 2, 3, 5, 11, 12, 13))
	if r.IntN(4) == 0 {
		a = dec(oneOf(r, "0", "1", "60", "3600", "86400", "31536000", nines(12)))
	}
	if a.Digits != "0" {
		a.Neg = r.IntN(2) == 0
	}
	return a
}

// P6.5: Add with the definition.
func TestAdd(t *testing.T) {
	results := map[api.Errno]int{}
	l := edges()
	for i, m := range l {
		for k, seconds := range []string{"0", "1", "-1", "0.5", "-0.5", "59.75", "86400", "-86400", "86399.999", "1000000007.25", "-98765432109.5", "0." + zeros(59) + "1", "-0." + nines(60), "60." + nines(58)} {
			months := (i*k%51 - 25) * 7
			if m.Kind == api.MtTime {
				months = 0
			}
			results[adds(t, m, months, dec(seconds))]++
		}
	}
	randoms(t, 30000, func(r *rand.Rand) {
		m := anyMoment(r)
		months := oneOf(r, 0, 0, 1, -1, 12, -12, r.IntN(100)-50, r.IntN(5000)-2500, r.IntN(240000)-120000)
		if m.Kind == api.MtTime && r.IntN(20) > 0 {
			months = 0
		}
		results[adds(t, m, months, randomSeconds(r))]++
	})
	if len(results) != 3 || results[api.OK] < 10000 || results[api.ErrRange] < 1000 {
		t.Errorf("results %v", results)
	}
}

// P6.7: Add of 86400 seconds is the next day.
func TestNextDay(t *testing.T) {
	day := dec("86400")
	check := func(m api.Moment) {
		next, e := moment.Add(m, 0, day)
		if m.Year == lastYear && m.Month == 12 && m.Day == 31 {
			if !isNothing(next) || e != api.ErrRange {
				t.Errorf("the day after %s: %v, %d", textOf(m), next, e)
			}
			return
		}
		want := m
		switch {
		case m.Day < lastDay(m.Year, m.Month):
			want.Day++
		case m.Month < 12:
			want.Month, want.Day = m.Month+1, 1
		case m.Year == -1:
			want.Year, want.Month, want.Day = 1, 1, 1
		default:
			want.Year, want.Month, want.Day = m.Year+1, 1, 1
		}
		n, _ := moment.Days(m)
		after, _ := moment.Days(next)
		if next != want || e != api.OK || after != n+1 {
			t.Errorf("the day after %s: %v, %d", textOf(m), next, e)
		}
		if back, e := moment.Add(next, 0, dec("-86400")); back != m || e != api.OK {
			t.Errorf("the day before %s: %v, %d", textOf(next), back, e)
		}
	}
	for _, m := range edges() {
		if hasDate(m.Kind) {
			check(m)
		}
	}
	for _, year := range []int{-9999, -401, -101, -5, -1, 1, 4, 1900, 2000, 2023, 2024, 9999} {
		for month := 1; month <= 12; month++ {
			for day := 1; day <= lastDay(year, month); day++ {
				check(date(year, month, day))
				check(in(both(date(year, month, day), clock(23, 59, "59.5")), 60))
			}
		}
	}
	randoms(t, 5000, func(r *rand.Rand) { check(randomMoment(r, oneOf(r, api.MtDate, api.MtBoth))) })
}
