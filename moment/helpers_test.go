package moment_test

import (
	"fmt"
	"math/big"
	"math/rand/v2"
	"strings"
	"testing"
	"time"

	"gabarit/api"
	"gabarit/decimal"
)

// mostDigits is how many digits a decimal has at most, and how many of them may be behind the point; lastYear is the last year.
const (
	mostDigits = 60
	lastYear   = 9999
)

var kinds = []int{api.MtDate, api.MtTime, api.MtBoth}

// dec is the decimal of a text.
func dec(text string) api.Decimal {
	a, e := decimal.Read(text)
	if e != api.OK {
		panic("no decimal: " + text)
	}
	return a
}

// nines and zeros are n of these digits.
func nines(n int) string { return strings.Repeat("9", n) }

func zeros(n int) string { return strings.Repeat("0", n) }

// date, clock and both are moments without a zone; in is one with it.
func date(year, month, day int) api.Moment {
	return api.Moment{Kind: api.MtDate, Year: year, Month: month, Day: day}
}

func clock(hour, minute int, second string) api.Moment {
	return api.Moment{Kind: api.MtTime, Hour: hour, Minute: minute, Second: dec(second)}
}

func both(d, c api.Moment) api.Moment {
	return api.Moment{Kind: api.MtBoth, Year: d.Year, Month: d.Month, Day: d.Day, Hour: c.Hour, Minute: c.Minute, Second: c.Second}
}

func in(m api.Moment, zone int) api.Moment {
	m.Zoned, m.Zone = true, zone
	return m
}

// hasDate and hasTime tell what moments of a kind have.
func hasDate(kind int) bool { return kind == api.MtDate || kind == api.MtBoth }

func hasTime(kind int) bool { return kind == api.MtTime || kind == api.MtBoth }

// isLong reports straight from the definition whether a year is long.
func isLong(year int) bool {
	if year < 0 {
		year++
	}
	return year%4 == 0 && year%100 != 0 || year%400 == 0
}

// lastDay is the number of days of a month, straight from the definition.
func lastDay(year, month int) int {
	switch month {
	case 2:
		if isLong(year) {
			return 29
		}
		return 28
	case 4, 6, 9, 11:
		return 30
	}
	return 31
}

// isValid reports straight from the definition whether m is valid.
func isValid(m api.Moment) bool {
	if m.Kind != api.MtDate && m.Kind != api.MtTime && m.Kind != api.MtBoth {
		return false
	}
	if hasDate(m.Kind) {
		if m.Year < -lastYear || m.Year > lastYear || m.Year == 0 || m.Month < 1 || m.Month > 12 || m.Day < 1 || m.Day > lastDay(m.Year, m.Month) {
			return false
		}
	} else if m.Year != 0 || m.Month != 0 || m.Day != 0 {
		return false
	}
	if hasTime(m.Kind) {
		if m.Hour < 0 || m.Hour > 23 || m.Minute < 0 || m.Minute > 59 || decimal.Check(m.Second) != api.OK {
			return false
		}
		if second := numberOf(m.Second); second.Sign() < 0 || second.Cmp(big.NewRat(60, 1)) >= 0 {
			return false
		}
	} else if m.Hour != 0 || m.Minute != 0 || m.Second != (api.Decimal{}) {
		return false
	}
	if !m.Zoned {
		return m.Zone == 0
	}
	return m.Zone >= -840 && m.Zone <= 840
}

// tens is 10, n times.
func tens(n int) *big.Int {
	power, _ := new(big.Int).SetString("1"+zeros(n), 10)
	return power
}

// numberOf is the number for which a stands.
func numberOf(a api.Decimal) *big.Rat {
	n, ok := new(big.Int).SetString(a.Digits, 10)
	if !ok {
		panic("no digits: " + a.Digits)
	}
	if a.Neg {
		n.Neg(n)
	}
	return new(big.Rat).SetFrac(n, tens(a.Scale))
}

// decimalOf is the valid decimal of a number that is not negative, if it has one.
func decimalOf(r *big.Rat) (api.Decimal, bool) {
	n := new(big.Rat).Mul(r, new(big.Rat).SetInt(tens(mostDigits)))
	if !n.IsInt() {
		return api.Decimal{}, false
	}
	a := api.Decimal{Digits: n.Num().String(), Scale: mostDigits}
	if a.Digits == "0" {
		a.Scale = 0
	}
	for a.Scale > 0 && strings.HasSuffix(a.Digits, "0") {
		a.Digits, a.Scale = strings.TrimSuffix(a.Digits, "0"), a.Scale-1
	}
	return a, len(a.Digits) <= mostDigits
}

// days is the day number of a date, by another calendar, which calls the year before the year 1 the year 0.
func days(m api.Moment) int64 {
	year := m.Year
	if year < 0 {
		year++
	}
	begin := time.Date(1, 1, 1, 0, 0, 0, 0, time.UTC).Unix()
	return (time.Date(year, time.Month(m.Month), m.Day, 0, 0, 0, 0, time.UTC).Unix() - begin) / 86400
}

// dateOf is the date with a day number, by that calendar.
func dateOf(number int64) (year, month, day int) {
	begin := time.Date(1, 1, 1, 0, 0, 0, 0, time.UTC).Unix()
	year, itsMonth, day := time.Unix(begin+86400*number, 0).UTC().Date()
	if year <= 0 {
		year--
	}
	return year, int(itsMonth), day
}

// point is the point of m, straight from the definition.
func point(m api.Moment) *big.Rat {
	p := new(big.Rat)
	if hasDate(m.Kind) {
		p.SetInt64(86400 * days(m))
	}
	if hasTime(m.Kind) {
		p.Add(p, big.NewRat(int64(3600*m.Hour+60*m.Minute), 1))
		p.Add(p, numberOf(m.Second))
	}
	if m.Zoned {
		p.Sub(p, big.NewRat(int64(60*m.Zone), 1))
	}
	return p
}

// floor is the greatest whole number that is not greater than r.
func floor(r *big.Rat) int64 { return new(big.Int).Div(r.Num(), r.Denom()).Int64() }

// momentOf is the moment of a kind, without a zone, with this point (for a time: a point that differs from it by whole days), or ErrRange.
func momentOf(kind int, p *big.Rat) (api.Moment, api.Errno) {
	m := api.Moment{Kind: kind}
	number := floor(new(big.Rat).Quo(p, big.NewRat(86400, 1)))
	if hasDate(kind) {
		m.Year, m.Month, m.Day = dateOf(number)
		if m.Year < -lastYear || m.Year > lastYear {
			return api.Moment{}, api.ErrRange
		}
	}
	if hasTime(kind) {
		left := new(big.Rat).Sub(p, big.NewRat(86400*number, 1))
		minutes := floor(new(big.Rat).Quo(left, big.NewRat(60, 1)))
		m.Hour, m.Minute = int(minutes/60), int(minutes%60)
		second, ok := decimalOf(left.Sub(left, big.NewRat(60*minutes, 1)))
		if !ok {
			return api.Moment{}, api.ErrRange
		}
		m.Second = second
	}
	return m, api.OK
}

// textOf is the text of m, straight from the definition.
func textOf(m api.Moment) string {
	text := ""
	if hasDate(m.Kind) {
		sign, year := "", m.Year
		if year < 0 {
			sign, year = "-", -year
		}
		text = fmt.Sprintf("%s%04d-%02d-%02d", sign, year, m.Month, m.Day)
	}
	if m.Kind == api.MtBoth {
		text += "T"
	}
	if hasTime(m.Kind) {
		whole := floor(numberOf(m.Second))
		text += fmt.Sprintf("%02d:%02d:%02d", m.Hour, m.Minute, whole)
		if m.Second.Scale > 0 {
			digits := zeros(mostDigits) + m.Second.Digits
			text += "." + digits[len(digits)-m.Second.Scale:]
		}
	}
	switch {
	case m.Zoned && m.Zone == 0:
		text += "Z"
	case m.Zone > 0:
		text += fmt.Sprintf("+%02d:%02d", m.Zone/60, m.Zone%60)
	case m.Zone < 0:
		text += fmt.Sprintf("-%02d:%02d", -m.Zone/60, -m.Zone%60)
	}
	return text
}

// dates are valid ones: those where the calendar, and where years, begin and end, and long years among others.
func dates() []api.Moment {
	return []api.Moment{
		date(1, 1, 1), date(-1, 12, 31), date(-1, 1, 1), date(-1, 2, 29), date(-1, 3, 1), date(1, 12, 31), date(2, 1, 1), date(4, 2, 29), date(-5, 2, 29), date(-4, 2, 28), date(-4, 3, 1), date(100, 2, 28), date(100, 3, 1), date(400, 2, 29), date(-101, 2, 28), date(-401, 2, 29), date(-400, 12, 31), date(401, 1, 1),
		date(1582, 10, 10), date(1900, 2, 28), date(1900, 3, 1), date(1970, 1, 1), date(1999, 12, 31), date(2000, 1, 1), date(2000, 2, 29), date(2000, 12, 31), date(2001, 1, 1), date(2024, 1, 31), date(2024, 2, 29), date(2024, 3, 1), date(2023, 2, 28), date(2024, 4, 30), date(2024, 6, 30), date(2024, 8, 31), date(2100, 2, 28),
		date(lastYear, 12, 31), date(lastYear, 1, 1), date(lastYear, 12, 1), date(lastYear-1, 12, 31), date(-lastYear, 1, 1), date(-lastYear, 12, 31), date(-lastYear+1, 1, 1), date(-9997, 2, 28), date(-9901, 2, 28), date(-9601, 2, 29), date(9600, 2, 29), date(9996, 2, 29),
	}
}

// clocks are valid times: where days begin and end, and seconds with few and with many digits.
func clocks() []api.Moment {
	return []api.Moment{
		clock(0, 0, "0"), clock(23, 59, "59"), clock(12, 0, "0"), clock(12, 0, "5.5"), clock(0, 30, "0"), clock(9, 5, "7"), clock(10, 50, "10"), clock(23, 59, "59.75"), clock(0, 0, "0.25"), clock(0, 0, "0.001"), clock(13, 0, "0"), clock(19, 59, "59.5"), clock(20, 0, "30"),
		clock(0, 0, "0."+zeros(59)+"1"), clock(23, 59, "59."+nines(58)), clock(7, 8, "9."+nines(59)), clock(7, 8, "0."+nines(60)), clock(0, 0, "50."+zeros(57)+"1"), clock(16, 4, "0.5"+zeros(58)+"5"), clock(1, 2, "3."+zeros(58)+"4"),
	}
}

// zones are those at which zones begin and end.
var zones = []int{0, 1, -1, 59, 60, -60, 61, 90, -90, 330, -570, 720, -720, 839, 840, -839, -840}

// edges are valid moments without and with zones.
func edges() []api.Moment {
	l := append(dates(), clocks()...)
	for i, d := range dates() {
		all := clocks()
		l = append(l, both(d, all[i%len(all)]), both(d, all[0]), both(d, all[1]))
	}
	for i, m := range l {
		l = append(l, in(m, zones[i%len(zones)]), in(m, zones[(3*i+7)%len(zones)]))
	}
	return l
}

// notValid are moments that are not valid.
func notValid() []api.Moment {
	least, most := -1<<63, 1<<63-1
	d, c := date(2024, 2, 29), clock(12, 30, "5.5")
	b := both(d, c)
	l := []api.Moment{{}, {Zoned: true}, {Kind: api.MtDate}, {Kind: api.MtTime}, {Kind: api.MtBoth}, {Kind: api.MtTime, Hour: 12}}
	for _, kind := range []int{0, 4, -1, 5, most, least} {
		for _, m := range []api.Moment{d, c, b} {
			m.Kind = kind
			l = append(l, m)
		}
	}
	for i, m := range []api.Moment{d, c, b} {
		m.Kind = kinds[(i+1)%3]
		l = append(l, m)
		m.Kind = kinds[(i+2)%3]
		l = append(l, m)
	}
	for _, x := range [][3]int{
		{0, 1, 1}, {0, 2, 29}, {lastYear + 1, 1, 1}, {-lastYear - 1, 1, 1}, {-lastYear - 1, 12, 31}, {most, 1, 1}, {least, 1, 1}, {2024, 0, 1}, {2024, -1, 1}, {2024, 13, 1}, {2024, most, 1}, {2024, least, 1}, {2024, 1, 0}, {2024, 1, -1}, {2024, 1, 32}, {2024, 1, most}, {2024, 1, least},
		{2024, 2, 30}, {2023, 2, 29}, {1900, 2, 29}, {2100, 2, 29}, {2000, 2, 30}, {-1, 2, 30}, {-4, 2, 29}, {-100, 2, 29}, {-101, 2, 29}, {-2, 2, 29}, {1, 2, 29}, {2024, 3, 32}, {2024, 4, 31}, {2024, 5, 32}, {2024, 6, 31}, {2024, 7, 32}, {2024, 8, 32}, {2024, 9, 31}, {2024, 10, 32}, {2024, 11, 31}, {2024, 12, 32},
	} {
		m := date(x[0], x[1], x[2])
		l = append(l, m, in(m, 60), both(m, c), in(both(m, c), 0))
	}
	for _, x := range []struct {
		hour, minute int
		second       api.Decimal
	}{
		{24, 0, dec("0")}, {-1, 0, dec("0")}, {25, 0, dec("0")}, {most, 0, dec("0")}, {least, 0, dec("0")}, {0, 60, dec("0")}, {0, -1, dec("0")}, {0, most, dec("0")}, {0, least, dec("0")}, {23, 59, dec("60")}, {0, 0, dec("60.5")}, {0, 0, dec("61")}, {0, 0, dec("100")}, {0, 0, dec("-1")}, {0, 0, dec("-0.1")}, {0, 0, dec("-0." + zeros(59) + "1")}, {0, 0, dec(nines(60))}, {0, 0, dec("-" + nines(60))}, {0, 0, dec("60." + zeros(57) + "1")},
		{0, 0, api.Decimal{}}, {0, 0, api.Decimal{Digits: "00"}}, {0, 0, api.Decimal{Digits: "05"}}, {0, 0, api.Decimal{Digits: "0", Neg: true}}, {0, 0, api.Decimal{Digits: "0", Scale: 1}}, {0, 0, api.Decimal{Digits: "50", Scale: 1}}, {0, 0, api.Decimal{Digits: "5", Scale: -1}}, {0, 0, api.Decimal{Digits: "5", Scale: 61}}, {0, 0, api.Decimal{Digits: "5x"}}, {0, 0, api.Decimal{Digits: nines(61), Scale: 60}}, {0, 0, api.Decimal{Digits: "5", Scale: most}}, {0, 0, api.Decimal{Neg: true}},
	} {
		m := api.Moment{Kind: api.MtTime, Hour: x.hour, Minute: x.minute, Second: x.second}
		l = append(l, m, in(m, -60), both(d, m), in(both(d, m), 0))
	}
	for _, m := range []api.Moment{d, c, b} {
		for _, zone := range []int{841, -841, most, least} {
			l = append(l, in(m, zone))
		}
		for _, zone := range []int{1, -1, 60, 840, -840, 841, most, least} {
			m.Zone = zone
			l = append(l, m)
		}
	}
	for _, change := range []func(m *api.Moment){
		func(m *api.Moment) { m.Hour = 1 }, func(m *api.Moment) { m.Minute = -1 }, func(m *api.Moment) { m.Second = dec("0") }, func(m *api.Moment) { m.Second.Neg = true }, func(m *api.Moment) { m.Second.Scale = 1 }, func(m *api.Moment) { m.Second.Digits = "7" },
	} {
		m := d
		change(&m)
		l = append(l, m, in(m, 0))
	}
	for _, change := range []func(m *api.Moment){func(m *api.Moment) { m.Year = 1 }, func(m *api.Moment) { m.Year = -2000 }, func(m *api.Moment) { m.Month = 1 }, func(m *api.Moment) { m.Day = 1 }} {
		m := c
		change(&m)
		l = append(l, m, in(m, 0))
	}
	return l
}

// randoms calls try with a source of chance that is always the same.
func randoms(t *testing.T, times int, try func(r *rand.Rand)) {
	t.Helper()
	r := rand.New(rand.NewPCG(1, 2))
	for range times {
		try(r)
		if t.Failed() {
			return
		}
	}
}

// oneOf is one of these.
func oneOf[T any](r *rand.Rand, l ...T) T { return l[r.IntN(len(l))] }

// randomDigits are n digits, often 0 and 9.
func randomDigits(r *rand.Rand, n int) string {
	some := oneOf(r, "0123456789", "09", "0009", "9998")
	digits := make([]byte, n)
	for i := range digits {
		digits[i] = some[r.IntN(len(some))]
	}
	return string(digits)
}

// randomNumber is a decimal with up to so many digits in front of the point, often with few behind it.
func randomNumber(r *rand.Rand, front int) api.Decimal {
	text := "0" + randomDigits(r, r.IntN(front+1))
	if r.IntN(3) > 0 {
		text += "." + randomDigits(r, oneOf(r, 1, 2, 5, 30, mostDigits-front, mostDigits-1, mostDigits))
	}
	a, e := decimal.Read(text)
	if e != api.OK {
		return randomNumber(r, front)
	}
	return a
}

// randomMoment is a valid moment of a kind.
func randomMoment(r *rand.Rand, kind int) api.Moment {
	m := api.Moment{Kind: kind}
	if hasDate(kind) {
		m.Year = oneOf(r, -lastYear, -lastYear+1, -401, -101, -5, -2, -1, 1, 2, 4, 100, 400, 1900, 2000, 2023, 2024, lastYear-1, lastYear, r.IntN(2*lastYear+1)-lastYear)
		if m.Year == 0 {
			m.Year = 1
		}
		m.Month = oneOf(r, 1, 2, 3, 12, 1+r.IntN(12))
		last := lastDay(m.Year, m.Month)
		m.Day = oneOf(r, 1, 2, last-1, last, 1+r.IntN(last))
	}
	if hasTime(kind) {
		m.Hour, m.Minute = oneOf(r, 0, 23, r.IntN(24)), oneOf(r, 0, 59, r.IntN(60))
		m.Second = randomNumber(r, 2)
	}
	if r.IntN(2) == 0 {
		m = in(m, oneOf(r, 0, 0, 60, -60, 840, -840, r.IntN(1681)-840))
	}
	if !isValid(m) {
		return randomMoment(r, kind)
	}
	return m
}

// anyMoment is a valid moment.
func anyMoment(r *rand.Rand) api.Moment { return randomMoment(r, oneOf(r, kinds...)) }

// isNothing reports whether m is the zero value.
func isNothing(m api.Moment) bool { return m == api.Moment{} }
