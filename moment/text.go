package moment

import (
	"math"
	"strconv"
	"strings"

	"gabarit/api"
	"gabarit/decimal"
)

const (
	digits = "0123456789"
	// A number of two digits below 60 begins with one of these.
	tensBelow60 = "012345"
)

// taker takes away what a text goes on with: as many of these bytes as stand there, but no more than most. It leaves by a panic if they are fewer than least.
type taker func(least, most int, of string) string

// Read returns the moment of this kind that s writes.
func Read(kind int, s string) (m api.Moment, e api.Errno) {
	if !hasDate(kind) && !hasTime(kind) {
		return api.Moment{}, api.ErrArg
	}
	defer func() {
		if wrong, left := recover().(api.Errno); left {
			e = wrong
		}
	}()
	return read(kind, s), api.OK
}

// read returns the moment of this kind that s writes, or leaves by a panic with what is wrong.
func read(kind int, s string) api.Moment {
	take := func(least, most int, of string) string {
		most = min(most, len(s))
		n := most - len(strings.TrimLeft(s[:most], of))
		if n < least {
			panic(api.ErrForm)
		}
		taken := s[:n]
		s = s[n:]
		return taken
	}
	m := api.Moment{Kind: kind}
	if hasDate(kind) {
		readDate(&m, take)
	}
	if kind == api.MtBoth {
		take(1, 1, "T")
	}
	second := ""
	if hasTime(kind) {
		second = readTime(&m, take)
	}
	readZone(&m, take)
	if s != "" {
		panic(api.ErrForm)
	}
	// The form of the whole text comes before the range of the second, and that before what is not valid.
	if hasTime(kind) {
		m.Second = secondOf(second)
	}
	if Check(m) != api.OK {
		panic(api.ErrForm)
	}
	return m
}

func readDate(m *api.Moment, take taker) {
	sign := take(0, 1, "-")
	m.Year = numberOf(take(4, 4, digits))
	if sign != "" {
		m.Year = -m.Year
	}
	take(1, 1, "-")
	m.Month = numberOf(take(2, 2, digits))
	take(1, 1, "-")
	m.Day = numberOf(take(2, 2, digits))
}

// readTime reads a time, and returns the text of its second.
func readTime(m *api.Moment, take taker) string {
	m.Hour = numberOf(take(2, 2, digits))
	take(1, 1, ":")
	m.Minute = numberOf(take(2, 2, digits))
	take(1, 1, ":")
	second := take(2, 2, digits)
	if point := take(0, 1, "."); point != "" {
		second += point + take(1, math.MaxInt, digits)
	}
	return second
}

func readZone(m *api.Moment, take taker) {
	sign := take(0, 1, "Z+-")
	m.Zoned = sign != ""
	if sign == "" || sign == "Z" {
		return
	}
	hours := numberOf(take(2, 2, digits))
	take(1, 1, ":")
	minutes := numberOf(take(1, 1, tensBelow60) + take(1, 1, digits))
	m.Zone = 60*hours + minutes
	if sign == "-" {
		m.Zone = -m.Zone
	}
}

// numberOf returns the number that a few digits write.
func numberOf(text string) int {
	n, _ := strconv.Atoi(text)
	return n
}

// secondOf returns the decimal of the text of a second, or leaves by a panic if there is none.
func secondOf(text string) api.Decimal {
	second, e := decimal.Read(text)
	if e != api.OK {
		panic(e)
	}
	return second
}

// Text returns the text of m.
func Text(m api.Moment) (string, api.Errno) {
	if Check(m) != api.OK {
		return "", api.ErrArg
	}
	text := ""
	if hasDate(m.Kind) {
		text += dateText(m)
	}
	if m.Kind == api.MtBoth {
		text += "T"
	}
	if hasTime(m.Kind) {
		text += timeText(m)
	}
	if m.Zoned {
		text += zoneText(m.Zone)
	}
	return text, api.OK
}

func dateText(m api.Moment) string {
	text := wide(m.Year, 4) + "-" + wide(m.Month, 2) + "-" + wide(m.Day, 2)
	if m.Year < 0 {
		return "-" + text
	}
	return text
}

func timeText(m api.Moment) string {
	second, _ := decimal.Text(m.Second)
	if whole, _, _ := strings.Cut(second, "."); len(whole) < 2 {
		second = "0" + second
	}
	return wide(m.Hour, 2) + ":" + wide(m.Minute, 2) + ":" + second
}

func zoneText(zone int) string {
	if zone == 0 {
		return "Z"
	}
	text := wide(zone/60, 2) + ":" + wide(zone%60, 2)
	if zone < 0 {
		return "-" + text
	}
	return "+" + text
}

// wide returns the digits of n without its sign, with zeros in front up to this width.
func wide(n, width int) string {
	text := strconv.Itoa(max(n, -n))
	return strings.Repeat("0", max(0, width-len(text))) + text
}
