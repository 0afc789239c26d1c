package moment

import (
	"cmp"
	"strconv"
	"strings"

	"gabarit/api"
	"gabarit/decimal"
)

const (
	secondsOfDay  = 86400
	secondsOfHour = 3600
	// A point with a zone and one without have no order unless they are more than this apart.
	unclear = 60 * maxZone
	// Add adds at most so many months, and less than so many seconds.
	mostMonths  = 300000
	mostSeconds = 1000000000000
)

// point is a number of seconds: a whole one, and a part from 0 on that is less than 1. Together they may have more digits than a decimal.
type point struct {
	whole int64
	part  api.Decimal
}

// pointOf returns the point that is this number of seconds, which is not mostSeconds or more.
func pointOf(seconds api.Decimal) point {
	text, _ := decimal.Text(seconds)
	front, behind, _ := strings.Cut(text, ".")
	whole, _ := strconv.ParseInt(front, 10, 64)
	part, _ := decimal.Read("0." + behind)
	if seconds.Neg && behind != "" {
		part, _ = decimal.Sub(decimal.Of(1), part)
		whole--
	}
	return point{whole, part}
}

// later returns the point so many whole seconds later.
func (p point) later(seconds int64) point { return point{p.whole + seconds, p.part} }

// plus returns the sum.
func (p point) plus(q point) point {
	whole := p.whole + q.whole
	// The sum of the parts may have a digit too many for a decimal; the sum without 1 has not.
	less, _ := decimal.Sub(q.part, decimal.Of(1))
	part, _ := decimal.Add(p.part, less)
	if !part.Neg {
		return point{whole + 1, part}
	}
	part, _ = decimal.Add(part, decimal.Of(1))
	return point{whole, part}
}

// compare returns -1, 0 or 1 if p is less than q, equal, greater.
func (p point) compare(q point) int {
	parts, _ := decimal.Cmp(p.part, q.part)
	return cmp.Or(cmp.Compare(p.whole, q.whole), parts)
}

// unzoned returns the point of m without its zone.
func unzoned(m api.Moment) point {
	whole := int64(0)
	if hasDate(m.Kind) {
		whole = secondsOfDay * dayNumber(m)
	}
	if !hasTime(m.Kind) {
		return point{whole, decimal.Of(0)}
	}
	return pointOf(m.Second).later(whole + secondsOfHour*int64(m.Hour) + 60*int64(m.Minute))
}

// zoned returns the point of m.
func zoned(m api.Moment) point { return unzoned(m).later(-60 * int64(m.Zone)) }

// at returns m with the date and the time at which its point without its zone is p.
func at(m api.Moment, p point) (api.Moment, api.Errno) {
	days, left := divided(p.whole, secondsOfDay)
	if hasDate(m.Kind) {
		var e api.Errno
		if m, e = withDay(m, days); e != api.OK {
			return api.Moment{}, e
		}
	}
	if !hasTime(m.Kind) {
		return m, api.OK
	}
	second, e := decimal.Add(decimal.Of(left%60), p.part)
	if e != api.OK {
		return api.Moment{}, e
	}
	m.Hour, m.Minute, m.Second = int(left/secondsOfHour), int(left%secondsOfHour/60), second
	return m, api.OK
}

// Days returns the day number of the date of m.
func Days(m api.Moment) (int64, api.Errno) {
	if Check(m) != api.OK || !hasDate(m.Kind) {
		return 0, api.ErrArg
	}
	return dayNumber(m), api.OK
}

// Normal returns m in the zone 0.
func Normal(m api.Moment) (api.Moment, api.Errno) {
	if Check(m) != api.OK || !m.Zoned || !hasTime(m.Kind) {
		return api.Moment{}, api.ErrArg
	}
	p := zoned(m)
	m.Zone = 0
	return at(m, p)
}

// Cmp returns the order of the points of a and b, if it is told.
func Cmp(a, b api.Moment) (order int, told bool, e api.Errno) {
	if !alike(a, b) {
		return 0, false, api.ErrArg
	}
	p, q := zoned(a), zoned(b)
	if a.Zoned == b.Zoned || p.later(unclear).compare(q) < 0 || q.later(unclear).compare(p) < 0 {
		return p.compare(q), true, api.OK
	}
	return 0, false, api.OK
}

// Equal reports whether a and b are equal.
func Equal(a, b api.Moment) (bool, api.Errno) {
	if !alike(a, b) {
		return false, api.ErrArg
	}
	return a.Zoned == b.Zoned && zoned(a).compare(zoned(b)) == 0, api.OK
}

// alike reports whether a and b are valid, and of one kind.
func alike(a, b api.Moment) bool {
	return Check(a) == api.OK && Check(b) == api.OK && a.Kind == b.Kind
}

// Add returns m so many months, and then so many seconds later.
func Add(m api.Moment, months int, seconds api.Decimal) (api.Moment, api.Errno) {
	switch {
	case Check(m) != api.OK || decimal.Check(seconds) != api.OK,
		months < -mostMonths || months > mostMonths || months != 0 && !hasDate(m.Kind):
		return api.Moment{}, api.ErrArg
	case isTooMany(seconds):
		return api.Moment{}, api.ErrRange
	}
	if hasDate(m.Kind) {
		var e api.Errno
		if m, e = withMonths(m, months); e != api.OK {
			return api.Moment{}, e
		}
	}
	return at(m, unzoned(m).plus(pointOf(seconds)))
}

// isTooMany reports whether these are mostSeconds or more, without their sign.
func isTooMany(seconds api.Decimal) bool {
	above, _ := decimal.Cmp(seconds, decimal.Of(mostSeconds))
	below, _ := decimal.Cmp(seconds, decimal.Of(-mostSeconds))
	return above >= 0 || below <= 0
}
