package moment_test

import (
	"math/big"
	"math/rand/v2"
	"regexp"
	"strconv"
	"strings"
	"testing"

	"gabarit/api"
	"gabarit/moment"
)

// forms are those of the texts that Read reads, by their kinds: sign of the year, year, month, day, hour, minute, second, zone, its sign, hours, minutes.
var forms = func() map[int]*regexp.Regexp {
	const (
		date = `(-?)([0-9]{4})-([0-9]{2})-([0-9]{2})`
		time = `([0-9]{2}):([0-9]{2}):([0-9]{2}(?:\.[0-9]+)?)`
		zone = `(Z|([+-])([0-9]{2}):([0-5][0-9]))?`
		none = `()()()()`
	)
	return map[int]*regexp.Regexp{
		api.MtDate: regexp.MustCompile(`\A` + date + `()()()` + zone + `\z`),
		api.MtTime: regexp.MustCompile(`\A` + none + time + zone + `\z`),
		api.MtBoth: regexp.MustCompile(`\A` + date + `T` + time + zone + `\z`),
	}
}()

// readOf is what Read returns.
func readOf(kind int, s string) (api.Moment, api.Errno) {
	form, ok := forms[kind]
	if !ok {
		return api.Moment{}, api.ErrArg
	}
	l := form.FindStringSubmatch(s)
	if l == nil {
		return api.Moment{}, api.ErrForm
	}
	number := func(i int) int {
		n, _ := strconv.Atoi(l[i])
		return n
	}
	m := api.Moment{Kind: kind, Year: number(2), Month: number(3), Day: number(4), Hour: number(5), Minute: number(6), Zoned: l[8] != "", Zone: 60*number(10) + number(11)}
	if l[1] != "" {
		m.Year = -m.Year
	}
	if l[9] == "-" {
		m.Zone = -m.Zone
	}
	if hasTime(kind) {
		second, _ := new(big.Rat).SetString(l[7])
		if m.Second, ok = decimalOf(second); !ok {
			return api.Moment{}, api.ErrRange
		}
	}
	if !isValid(m) {
		return api.Moment{}, api.ErrForm
	}
	return m, api.OK
}

// reads compares Read of each kind with the definition, and returns the errors.
func reads(t *testing.T, s string) (errors []api.Errno) {
	t.Helper()
	for _, kind := range kinds {
		want, f := readOf(kind, s)
		m, e := moment.Read(kind, s)
		if m != want || e != f {
			t.Errorf("Read(%d, %.300q): %v, %d, want %v, %d", kind, s, m, e, want, f)
		}
		errors = append(errors, e)
	}
	return errors
}

// P6.2: the examples of the chapter, and texts of each form.
func TestRead(t *testing.T) {
	for s, want := range map[string]api.Moment{
		"2000-02-29": date(2000, 2, 29), "-0001-02-29": date(-1, 2, 29), "0001-01-01": date(1, 1, 1), "-9999-12-31": date(-lastYear, 12, 31), "9999-12-31": date(lastYear, 12, 31), "2000-02-29Z": in(date(2000, 2, 29), 0), "-0001-02-29-14:00": in(date(-1, 2, 29), -840), "2000-02-29+00:01": in(date(2000, 2, 29), 1), "2000-02-29-00:00": in(date(2000, 2, 29), 0),
		"00:00:00": clock(0, 0, "0"), "23:59:59": clock(23, 59, "59"), "12:34:56.7": clock(12, 34, "56.7"), "12:34:56.70": clock(12, 34, "56.7"), "12:34:56.000": clock(12, 34, "56"), "12:34:05.050": clock(12, 34, "5.05"), "00:00:00.0": clock(0, 0, "0"), "00:00:00Z": in(clock(0, 0, "0"), 0), "00:00:00.5+00:00": in(clock(0, 0, "0.5"), 0), "00:00:00-00:00": in(clock(0, 0, "0"), 0), "00:00:00.25+14:00": in(clock(0, 0, "0.25"), 840), "00:00:00-13:59": in(clock(0, 0, "0"), -839),
		"2024-03-01T12:00:05.50+01:00": in(both(date(2024, 3, 1), clock(12, 0, "5.5")), 60), "-0400-12-31T23:59:59.999": both(date(-400, 12, 31), clock(23, 59, "59.999")), "2024-03-01T12:00:05Z": in(both(date(2024, 3, 1), clock(12, 0, "5")), 0),
	} {
		if m, e := moment.Read(want.Kind, s); m != want || e != api.OK {
			t.Errorf("Read(%s): %v, %d, want %v", s, m, e, want)
		}
		reads(t, s)
	}
	for _, s := range []string{
		"", " ", "-", "+", "Z", "T", ":", ".", "0", "2000", "2000-02", "2000-2-29", "2000-02-2", "2000-02-029", "2000-002-29", "200-02-29", "20000-02-29", "02000-02-29", "+2000-02-29", "--2000-02-29", "2000--02-29", "2000-+2-29", "2000-02--9", "2000/02/29", "2000-02-29 ", " 2000-02-29", "2000-02-29\n", "2000-02-29T", "2000-02-29ZZ", "2000-02-29z", "2000-02-29+", "2000-02-29+1", "2000-02-29+01", "2000-02-29+0100", "2000-02-29+1:00", "2000-02-29+01:0", "2000-02-29+01:000", "2000-02-29+001:00", "2000-02-29+01:00Z", "2000-02-29Z+01:00", "2000-02-29 01:00", "20000229", "2000-02-29\x00", "2000-02-29\xff", "2000-02-2９", "２000-02-29",
		"1900-02-29", "0000-01-01", "-0000-01-01", "-0004-02-29", "2000-00-01", "2000-13-01", "2000-01-00", "2000-01-32", "2000-02-30", "2000-04-31", "2000-02-29+14:01", "2000-02-29-14:01", "2000-02-29+15:00", "2000-02-29+99:00", "2000-02-29-99:59", "2000-02-29+00:60", "2000-02-29+01:75", "2000-02-29-12:99", "2000-02-29+13:60",
		"12", "12:00", "12:00:", "12:00:0", "12:00:000", "1:00:00", "012:00:00", "12:0:00", "12:000:00", "12:00:00.", "12:00:00..5", "12:00:00.5.5", "12:00:00,5", "12:00:.5", "12:00:0.5", "12:00:00.Z", "12:00:00.+01:00", "12:00:00. 5", "12:00:00.5 ", "12:00:00.-5", "-12:00:00", "+12:00:00", "12:-1:00", "12:00:-1", "12-00-00", "120000", "T12:00:00", "12:00:00.5e1", "12:00:00.x", "12:00:00.5\x00",
		"24:00:00", "24:00:00.5", "25:00:00", "99:00:00", "12:60:00", "12:99:00", "12:00:60", "12:00:60.5", "12:00:99", "12:00:00+14:01", "12:00:00-15:00", "12:00:00+24:00", "12:00:00+00:60", "12:00:00-13:60",
		"2024-03-01T", "T12:00:05", "2024-03-01 12:00:05", "2024-03-01t12:00:05", "2024-03-0112:00:05", "2024-03-01TT12:00:05", "2024-03-01ZT12:00:05", "2024-03-01ZT12:00:05Z", "2024-03-01T24:00:00", "2024-03-00T12:00:05", "0000-03-01T12:00:05", "2023-02-29T12:00:05", "2024-03-01T12:00:05+15:00", "2024-03-01T12:00:05+00:60",
	} {
		for i, e := range reads(t, s) {
			if e != api.ErrForm {
				t.Errorf("Read(%d, %q): %d", kinds[i], s, e)
			}
		}
	}
}

// P6.2: no kind.
func TestReadNoKind(t *testing.T) {
	for _, kind := range []int{0, -1, 4, 5, -1 << 63, 1<<63 - 1} {
		for _, s := range []string{"", "x", "2000-02-29", "12:00:00", "2000-02-29T12:00:00", "12:00:00." + nines(61)} {
			if m, e := moment.Read(kind, s); !isNothing(m) || e != api.ErrArg {
				t.Errorf("Read(%d, %q): %v, %d", kind, s, m, e)
			}
		}
	}
}

// P6.2: a text of one kind does not have the form of another one.
func TestReadOtherKind(t *testing.T) {
	for _, m := range edges() {
		for _, kind := range kinds {
			got, e := moment.Read(kind, textOf(m))
			if kind != m.Kind && (!isNothing(got) || e != api.ErrForm) {
				t.Errorf("Read(%d, %q): %v, %d", kind, textOf(m), got, e)
			}
		}
	}
}

// P6.2: a second that has no decimal comes behind a wrong form, and before what is not valid.
func TestReadRange(t *testing.T) {
	tooLong := []string{"00." + nines(61), "00." + zeros(60) + "1", "01." + zeros(59) + "1", "12." + zeros(58) + "1", "59." + nines(59), "09." + nines(60)}
	for _, second := range tooLong {
		for _, zone := range []string{"", "Z", "+01:00", "-14:00", "+00:00", "+99:00", "-14:59"} {
			for _, s := range []string{"12:00:" + second, "24:00:" + second, "00:60:" + second} {
				for _, d := range []string{"", "2000-02-29T", "1900-02-29T", "0000-00-00T", "-0000-01-01T", "-9999-13-99T"} {
					kind := api.MtBoth
					if d == "" {
						kind = api.MtTime
					}
					reads(t, d+s+zone)
					if m, e := moment.Read(kind, d+s+zone); !isNothing(m) || e != api.ErrRange {
						t.Errorf("Read(%s): %v, %d", d+s+zone, m, e)
					}
				}
			}
		}
		for _, s := range []string{"12:00:" + second + " ", "12:00:" + second + "z", "12:00:" + second + "+1:00", "12:00:" + second + "+00:60", "12:00:" + second + ".", "1:00:" + second, "2000-02-29T2:00:" + second, "12:00:" + second + "ZZ"} {
			for i, e := range reads(t, s) {
				if e != api.ErrForm {
					t.Errorf("Read(%d, %s): %d", kinds[i], s, e)
				}
			}
		}
	}
	for _, second := range []string{"60." + nines(59), "99." + zeros(60) + "1"} {
		if m, e := moment.Read(api.MtTime, "12:00:"+second); !isNothing(m) || e != api.ErrRange {
			t.Errorf("Read(12:00:%s): %v, %d", second, m, e)
		}
	}
	for second, want := range map[string]string{"00." + nines(60): "0." + nines(60), "09." + nines(59): "9." + nines(59), "59." + nines(58): "59." + nines(58), "05." + zeros(100): "5", "05.5" + zeros(100): "5.5", "00." + zeros(59) + "1" + zeros(9): "0." + zeros(59) + "1"} {
		if m, e := moment.Read(api.MtTime, "12:00:"+second); m != clock(12, 0, want) || e != api.OK {
			t.Errorf("Read(12:00:%s): %v, %d", second, m, e)
		}
	}
}

// P6.2: texts with something left out, put in or changed.
func TestReadNear(t *testing.T) {
	results := map[api.Errno]int{}
	bytes := "0123456789-+:.TZ 59tz\x00\xff"
	randoms(t, 60000, func(r *rand.Rand) {
		s := textOf(anyMoment(r))
		for range r.IntN(3) {
			at := r.IntN(len(s) + 1)
			letter := string(bytes[r.IntN(len(bytes))])
			switch end := min(at+1, len(s)); r.IntN(8) {
			case 0:
				s = s[:at] + letter + s[at:]
			case 1:
				s = s[:at] + s[end:]
			case 2:
				s = s[:at] + oneOf(r, "+00:00", "-00:00", "+14:00", "-14:01", "T", nines(30), zeros(60))
			default:
				s = s[:at] + letter + s[end:]
			}
		}
		for _, e := range reads(t, s) {
			results[e]++
		}
	})
	if len(results) != 3 || results[api.OK] < 10000 || results[api.ErrRange] < 100 {
		t.Errorf("results %v", results)
	}
}

// P6.2: all texts of two and four digits at each place.
func TestReadNumbers(t *testing.T) {
	for n := range 10000 {
		four := strconv.Itoa(10000 + n)[1:]
		reads(t, four+"-02-29")
		reads(t, "-"+four+"-02-29Z")
		if n >= 100 {
			continue
		}
		two := four[2:]
		for _, s := range []string{"2000-" + two + "-01", "2000-01-" + two, "2000-02-" + two, "2001-02-" + two, two + ":00:00", "00:" + two + ":00", "00:00:" + two, "00:00:" + two + ".5", "00:00:00+" + two + ":00", "00:00:00-" + two + ":00", "00:00:00+00:" + two, "00:00:00-13:" + two, "00:00:00+14:" + two} {
			reads(t, s)
		}
	}
}

// P6.2: Text, with the examples of the chapter.
func TestText(t *testing.T) {
	for want, m := range map[string]api.Moment{
		"2024-03-01T12:00:05.5+01:00": in(both(date(2024, 3, 1), clock(12, 0, "5.50")), 60),
		"2000-02-29":                  date(2000, 2, 29), "-0001-02-29": date(-1, 2, 29), "0001-01-01": date(1, 1, 1), "0987-06-05Z": in(date(987, 6, 5), 0), "-9999-12-31-14:00": in(date(-lastYear, 12, 31), -840), "9999-10-11+14:00": in(date(lastYear, 10, 11), 840),
		"00:00:00": clock(0, 0, "0"), "00:00:00.5": clock(0, 0, "0.5"), "00:00:09.05": clock(0, 0, "9.05"), "23:59:59.75": clock(23, 59, "59.75"), "01:02:10Z": in(clock(1, 2, "10"), 0), "01:02:03+00:01": in(clock(1, 2, "3"), 1), "01:02:03-00:01": in(clock(1, 2, "3"), -1), "01:02:03-01:30": in(clock(1, 2, "3"), -90), "01:02:03+13:59": in(clock(1, 2, "3"), 839), "00:00:00." + nines(60): clock(0, 0, "0."+nines(60)), "00:00:00." + zeros(59) + "1": clock(0, 0, "0."+zeros(59)+"1"), "00:00:59." + nines(58): clock(0, 0, "59."+nines(58)),
		"-0010-01-02T03:04:05.006-07:08": in(both(date(-10, 1, 2), clock(3, 4, "5.006")), -428),
	} {
		if text, e := moment.Text(m); text != want || e != api.OK {
			t.Errorf("Text(%v): %q, %d, want %q", m, text, e, want)
		}
	}
	m, e := moment.Read(api.MtBoth, "2024-03-01T12:00:05.50+01:00")
	if text, f := moment.Text(m); text != "2024-03-01T12:00:05.5+01:00" || e != api.OK || f != api.OK {
		t.Errorf("Text of Read: %q, %d, %d", text, e, f)
	}
	check := func(m api.Moment) {
		if text, e := moment.Text(m); text != textOf(m) || e != api.OK {
			t.Errorf("Text(%v): %q, %d, want %q", m, text, e, textOf(m))
		}
	}
	for _, m := range edges() {
		check(m)
	}
	for zone := -840; zone <= 840; zone++ {
		check(in(clock(0, 0, "0"), zone))
	}
	randoms(t, 20000, func(r *rand.Rand) { check(anyMoment(r)) })
	for _, m := range notValid() {
		if text, e := moment.Text(m); text != "" || e != api.ErrArg {
			t.Errorf("Text(%v): %q, %d", m, text, e)
		}
	}
}

// P6.6: Read of the text is the moment.
func TestReadOfText(t *testing.T) {
	check := func(m api.Moment) {
		text, _ := moment.Text(m)
		if back, e := moment.Read(m.Kind, text); back != m || e != api.OK {
			t.Errorf("Read of Text of %v: %v, %d", m, back, e)
		}
		if hasTime(m.Kind) && !strings.Contains(text, ":") || hasDate(m.Kind) && !strings.Contains(text, "-") {
			t.Errorf("Text(%v): %q", m, text)
		}
	}
	for _, m := range edges() {
		check(m)
	}
	randoms(t, 20000, func(r *rand.Rand) { check(anyMoment(r)) })
}
