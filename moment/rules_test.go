package moment_test

import (
	"math/rand/v2"
	"reflect"
	"slices"
	"strings"
	"sync"
	"testing"

	"gabarit/api"
	"gabarit/moment"
)

// arguments are those of the functions of the package.
type arguments struct {
	a, b    api.Moment
	kind    int
	s       string
	months  int
	seconds api.Decimal
}

// result is what a function returns: all results but the error, and the error.
type result struct {
	what   string
	values []any
	e      api.Errno
}

// results calls every function of the package.
func results(g arguments) []result {
	l := []result{{"Check", nil, moment.Check(g.a)}}
	add := func(what string, e api.Errno, values ...any) { l = append(l, result{what, values, e}) }
	m, e := moment.Read(g.kind, g.s)
	add("Read", e, m)
	text, e := moment.Text(g.a)
	add("Text", e, text)
	n, e := moment.Days(g.a)
	add("Days", e, n)
	m, e = moment.Normal(g.a)
	add("Normal", e, m)
	order, told, e := moment.Cmp(g.a, g.b)
	add("Cmp", e, order, told)
	equal, e := moment.Equal(g.a, g.b)
	add("Equal", e, equal)
	m, e = moment.Add(g.a, g.months, g.seconds)
	add("Add", e, m)
	return l
}

// may are the errors that each function may return.
func may(what string) []api.Errno {
	switch what {
	case "Read":
		return []api.Errno{api.OK, api.ErrArg, api.ErrForm, api.ErrRange}
	case "Normal", "Add":
		return []api.Errno{api.OK, api.ErrArg, api.ErrRange}
	}
	return []api.Errno{api.OK, api.ErrArg}
}

// randomArguments are arguments of which some are not valid.
func randomArguments(r *rand.Rand) arguments {
	bad := notValid()
	number := func() int { return int(int64(r.Uint64()) >> r.IntN(64)) }
	one := func() api.Moment {
		m := anyMoment(r)
		switch r.IntN(12) {
		case 0:
			return bad[r.IntN(len(bad))]
		case 1:
			*oneOf(r, &m.Kind, &m.Year, &m.Month, &m.Day, &m.Hour, &m.Minute, &m.Zone, &m.Second.Scale) = number()
		case 2:
			m.Second.Digits += oneOf(r, "0", "x", "\xff", zeros(70))
		}
		return m
	}
	g := arguments{one(), one(), r.IntN(5), textOf(anyMoment(r)), 0, randomSeconds(r)}
	if r.IntN(2) == 0 {
		g.b = randomMoment(r, max(1, min(g.a.Kind, 3)))
		g.kind = 1 + r.IntN(3)
	}
	if r.IntN(3) == 0 {
		at := r.IntN(len(g.s) + 1)
		g.s = g.s[:at] + oneOf(r, "", "0", ".", "-", "+", ":", "T", "Z", " ", "\x00", "\xff", "é", nines(70)) + g.s[at:]
	}
	if r.IntN(2) == 0 {
		g.months = number()
	}
	if r.IntN(9) == 0 {
		g.seconds.Scale = number()
	}
	return g
}

// R1, R2, R8: for all arguments, every function returns; with an error, all other results are zero; without one, moments are valid.
func TestAllArguments(t *testing.T) {
	check := func(g arguments) {
		for _, x := range results(g) {
			for _, v := range x.values {
				if x.e != api.OK && !reflect.ValueOf(v).IsZero() {
					t.Errorf("%s(%.500v): %v with the error %d", x.what, g, v, x.e)
				}
				if m, ok := v.(api.Moment); ok && x.e == api.OK && !isValid(m) {
					t.Errorf("%s(%.500v): %v is not valid", x.what, g, m)
				}
			}
			if !slices.Contains(may(x.what), x.e) {
				t.Errorf("%s(%.500v): the error %d", x.what, g, x.e)
			}
		}
	}
	l := append(notValid(), edges()[:40]...)
	for i, a := range l {
		for k, b := range l {
			check(arguments{a, b, (i - k) % 5, a.Second.Digits, []int{-1 << 63, -300000, -1, 0, 1, 300000, 1<<63 - 1}[(i+k)%7], b.Second})
		}
	}
	randoms(t, 20000, func(r *rand.Rand) { check(randomArguments(r)) })
}

// R2: what a function's description names first comes first.
func TestFirstError(t *testing.T) {
	m := in(both(date(lastYear, 12, 31), clock(23, 59, "59.5")), -60)
	large := dec(nines(60))
	for _, c := range []struct {
		m       api.Moment
		months  int
		seconds api.Decimal
		want    api.Errno
	}{
		{m, 1, large, api.ErrRange}, {m, 300001, large, api.ErrArg}, {m, 1, api.Decimal{}, api.ErrArg}, {m, 300001, api.Decimal{}, api.ErrArg}, {clock(0, 0, "0.5"), 0, large, api.ErrRange}, {clock(0, 0, "0.5"), 1, large, api.ErrArg}, {in(m, 841), 1, large, api.ErrArg},
	} {
		if got, e := moment.Add(c.m, c.months, c.seconds); !isNothing(got) || e != c.want {
			t.Errorf("Add(%v, %d, %v): %v, %d, want %d", c.m, c.months, c.seconds, got, e, c.want)
		}
	}
	for s, want := range map[string]api.Errno{
		"24:00:00." + nines(61) + "x": api.ErrForm, "24:00:00." + nines(61): api.ErrRange, "24:00:00." + nines(60): api.ErrForm, "x24:00:00." + nines(61): api.ErrForm,
	} {
		if got, e := moment.Read(api.MtTime, s); !isNothing(got) || e != want {
			t.Errorf("Read(%s): %v, %d, want %d", s, got, e, want)
		}
		if got, e := moment.Read(4, s); !isNothing(got) || e != api.ErrArg {
			t.Errorf("Read(4, %s): %v, %d", s, got, e)
		}
	}
}

// R3: arguments are not changed, and calls with results as arguments do not change these.
func TestArgumentsStay(t *testing.T) {
	randoms(t, 5000, func(r *rand.Rand) {
		g := randomArguments(r)
		was := g
		for _, s := range []*string{&was.a.Second.Digits, &was.b.Second.Digits, &was.s, &was.seconds.Digits} {
			*s = strings.Clone(*s)
		}
		first := results(g)
		kept := results(g)
		for _, x := range first {
			for _, v := range x.values {
				if m, ok := v.(api.Moment); ok {
					results(arguments{m, g.b, m.Kind, g.s, g.months, m.Second})
				}
			}
		}
		if g != was || !reflect.DeepEqual(first, kept) {
			t.Errorf("changed: %.1000v, now %.1000v", was, g)
		}
	})
}

// R6: results depend only on the arguments, whatever else is called before, or at the same time.
func TestSameAgain(t *testing.T) {
	var all []arguments
	var want [][]result
	randoms(t, 2000, func(r *rand.Rand) {
		g := randomArguments(r)
		all = append(all, g)
		want = append(want, results(g))
	})
	var group sync.WaitGroup
	for range 4 {
		group.Go(func() {
			for i := len(all) - 1; i >= 0; i-- {
				if again := results(all[i]); !reflect.DeepEqual(again, want[i]) {
					t.Errorf("%.500v: %v, then %v", all[i], want[i], again)
				}
			}
		})
	}
	group.Wait()
}

// R7: texts that are large.
func TestLarge(t *testing.T) {
	many := zeros(5000000)
	huge := clock(0, 0, "0")
	huge.Second = api.Decimal{Digits: "1" + many, Scale: 3}
	for _, x := range results(arguments{a: huge, b: huge, kind: api.MtTime, s: many, seconds: huge.Second}) {
		if x.e != api.ErrArg && x.what != "Read" {
			t.Errorf("%s of 5000000 digits: %d", x.what, x.e)
		}
	}
	if m, e := moment.Add(clock(0, 0, "0"), 0, huge.Second); !isNothing(m) || e != api.ErrArg {
		t.Errorf("Add of 5000000 digits: %v, %d", m, e)
	}
	for s, want := range map[string]api.Moment{"00:00:05." + many: clock(0, 0, "5"), "00:00:05.5" + many + "Z": in(clock(0, 0, "5.5"), 0)} {
		if m, e := moment.Read(api.MtTime, s); m != want || e != api.OK {
			t.Errorf("Read of %d bytes: %v, %d", len(s), m, e)
		}
	}
	for s, want := range map[string]api.Errno{"00:00:05." + many + "1": api.ErrRange, "00:00:05." + many + "1+01:00": api.ErrRange, "00:00:05." + many + "x": api.ErrForm, "24:00:00." + many: api.ErrForm, many + "-01-01": api.ErrForm, many: api.ErrForm, "00:00:05Z" + many: api.ErrForm} {
		if m, e := moment.Read(api.MtTime, s); !isNothing(m) || e != want {
			t.Errorf("Read of %d bytes: %v, %d", len(s), m, e)
		}
	}
}
