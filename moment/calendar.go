package moment

import "gabarit/api"

const (
	// The calendar begins again behind 400 years.
	yearsOfCycle = 400
	daysOfCycle  = 146097
)

// daysOfMonths are the days of the months of a year that is not long.
var daysOfMonths = [...]int{31, 28, 31, 30, 31, 30, 31, 31, 30, 31, 30, 31}

// isNear reports whether a year is not beyond the first and the last one.
func isNear(year int) bool { return year >= -api.MaxYear && year <= api.MaxYear }

// counted returns the counted year of a year; counted years have no gap at 0.
func counted(year int) int {
	if year < 0 {
		return year + 1
	}
	return year
}

// uncounted returns the year of a counted year.
func uncounted(year int) int {
	if year <= 0 {
		return year - 1
	}
	return year
}

// isLong reports whether a counted year is long.
func isLong(year int) bool {
	return year%4 == 0 && year%100 != 0 || year%400 == 0
}

// daysOfYear returns the number of days of a counted year.
func daysOfYear(year int) int {
	if isLong(year) {
		return 366
	}
	return 365
}

// daysOfMonth returns the number of days of a month of a counted year.
func daysOfMonth(year, month int) int {
	if month == 2 && isLong(year) {
		return 29
	}
	return daysOfMonths[month-1]
}

// dayNumber returns the day number of the date of m.
func dayNumber(m api.Moment) int64 {
	year := counted(m.Year)
	before := int64(year) - 1
	fours, _ := divided(before, 4)
	hundreds, _ := divided(before, 100)
	fourHundreds, _ := divided(before, 400)
	days := 365*before + fours - hundreds + fourHundreds
	for month := 1; month < m.Month; month++ {
		days += int64(daysOfMonth(year, month))
	}
	return days + int64(m.Day) - 1
}

// withDay returns m with the date that has this day number, or ErrRange if its year is too far away.
func withDay(m api.Moment, number int64) (api.Moment, api.Errno) {
	cycles, left := divided(number, daysOfCycle)
	year, days := 1+int(cycles)*yearsOfCycle, int(left)
	for days >= daysOfYear(year) {
		days -= daysOfYear(year)
		year++
	}
	month := 1
	for days >= daysOfMonth(year, month) {
		days -= daysOfMonth(year, month)
		month++
	}
	return withDate(m, year, month, days+1)
}

// withMonths returns m so many months later, on the last day of the month if that has fewer days, or ErrRange if its year is too far away.
func withMonths(m api.Moment, months int) (api.Moment, api.Errno) {
	all := int64(counted(m.Year))*12 + int64(m.Month-1) + int64(months)
	years, left := divided(all, 12)
	year, month := int(years), int(left)+1
	return withDate(m, year, month, min(m.Day, daysOfMonth(year, month)))
}

// withDate returns m with a date of a counted year, or ErrRange if the year is too far away.
func withDate(m api.Moment, year, month, day int) (api.Moment, api.Errno) {
	m.Year, m.Month, m.Day = uncounted(year), month, day
	if !isNear(m.Year) {
		return api.Moment{}, api.ErrRange
	}
	return m, api.OK
}

// divided returns the quotient, rounded down, and what is left, which is from 0 on; by is above 0.
func divided(n, by int64) (quotient, left int64) {
	quotient, left = n/by, n%by
	if left < 0 {
		return quotient - 1, left + by
	}
	return quotient, left
}
