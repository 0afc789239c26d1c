package scan_test

import (
	"math/rand/v2"
	"strings"
	"testing"

	"gabarit/api"
	"gabarit/scan"
)

// fed gives the pieces to a scanner, then ends the text, and returns all that came of it.
func fed(t *testing.T, pieces []string) outcome {
	t.Helper()
	s := scan.New()
	given := 0
	var o outcome
	for _, piece := range pieces {
		if s.At() != given {
			t.Errorf("At is %d behind %d bytes of %q", s.At(), given, pieces)
		}
		events, e := s.Feed(piece)
		given += len(piece)
		o.events = append(o.events, events...)
		if e != api.OK {
			return outcome{e: e, place: s.At()}
		}
	}
	events, e := s.End()
	if e != api.OK {
		return outcome{e: e, place: s.At()}
	}
	if len(events) != 0 || s.At() != given {
		t.Errorf("End of %q: %v, at %d of %d", pieces, events, s.At(), given)
	}
	return o
}

// cut divides s into pieces.
func cut(r *rand.Rand, s string) []string {
	var l []string
	for s != "" {
		n := min(len(s), r.IntN(5))
		l = append(l, s[:n])
		s = s[n:]
	}
	return l
}

// checkPieces compares what a scanner answers, to the pieces one behind the other, with what is wanted.
func checkPieces(t *testing.T, pieces []string, want outcome) {
	t.Helper()
	if want.e != api.OK {
		want.events = nil
	}
	if got := fed(t, pieces); got.e != want.e || got.place != want.place && want.e != api.OK || !sameEvents(got.events, want.events) {
		t.Errorf("%q:\n%v,\nwant\n%v", pieces, got, want)
	}
}

// P3.4: in whatever pieces.
func TestPieces(t *testing.T) {
	for _, c := range documents {
		checkPieces(t, strings.Split(c.s, ""), outcome{events: c.want})
		for i := range len(c.s) + 1 {
			checkPieces(t, []string{c.s[:i], "", c.s[i:]}, outcome{events: c.want})
		}
	}
	for _, c := range errors {
		for i := range len(c.s) + 1 {
			checkPieces(t, []string{c.s[:i], c.s[i:]}, outcome{e: c.e, place: c.place})
		}
	}
	randoms(t, 20000, func(r *rand.Rand) {
		s := randomText(r)
		checkPieces(t, cut(r, s), whole(s))
	})
}

// P3.2: each error, and each event, as soon as it may be.
func TestSoon(t *testing.T) {
	t.Parallel()
	checkSoon := func(s string) {
		t.Helper()
		scanner := scan.New()
		was := outcome{}
		for i := range len(s) {
			now := soFar(s[:i+1])
			events, e := scanner.Feed(s[i : i+1])
			if e != now.e || scanner.At() != now.place && e != api.OK || e == api.OK && scanner.At() != i+1 {
				t.Errorf("%q | %q: %d at %d, want %d at %d", s[:i], s[i:i+1], e, scanner.At(), now.e, now.place)
			}
			if e != api.OK {
				return
			}
			if !sameEvents(events, now.events[len(was.events):]) {
				t.Errorf("%q | %q: %v, want %v", s[:i], s[i:i+1], events, now.events[len(was.events):])
			}
			was = now
		}
	}
	for _, s := range []string{
		"<a>b<!-- --><b x='&lt;'/>&lt;<![CDATA[\r\n]]>c</a>\r\n<!-- -->", "<é>é\u20ac\U0001f600</é>", "<a>\r\n\r</a>",
		"<a>\xe2\x82a", "<a>\xc3<", "<a>\xe0\x80", "<a>\xed\xa0", "<a>\xef\xbf\xbf", "<a>\xf0\x8f", "<a>\xf4\x90", "<a>\xf0\x9f\x98<", "<a>\xf4\x8f\xbf\xff", "<a>\x80", "<a>\xc0", "<a>\xc1", "<a>\xf5", "<a>\x1f", "\xc3\xa9", "<\r\n",
	} {
		checkSoon(s)
	}
	randoms(t, 600, func(r *rand.Rand) { checkSoon(randomText(r)) })
}

// P3.2: bytes that are not read yet, and what End says of them.
func TestRest(t *testing.T) {
	s := scan.New()
	if events, e := s.Feed("<a>\xe2\x82"); len(events) != 1 || e != api.OK || s.At() != 5 {
		t.Errorf("Feed: %v, %d at %d", events, e, s.At())
	}
	if events, e := s.End(); len(events) != 0 || e != api.ErrForm || s.At() != 3 {
		t.Errorf("End: %v, %d at %d", events, e, s.At())
	}
	s = scan.New()
	if _, e := s.Feed("<a/>\xf0\x90"); e != api.OK || s.At() != 6 {
		t.Errorf("Feed: %d at %d", e, s.At())
	}
	if _, e := s.Feed("\x80"); e != api.OK || s.At() != 7 {
		t.Errorf("Feed: %d at %d", e, s.At())
	}
	if _, e := s.Feed("\x80"); e != api.ErrSyntax || s.At() != 4 {
		t.Errorf("Feed: %d at %d", e, s.At())
	}
}

// P3.2: after an error, the same error again.
func TestErrorAgain(t *testing.T) {
	again := func(s *scan.Scanner, want api.Errno, place int) {
		t.Helper()
		for range 2 {
			for _, piece := range []string{"", "</a>", "\xff"} {
				if events, e := s.Feed(piece); len(events) != 0 || e != want || s.At() != place {
					t.Errorf("Feed(%q): %v, %d at %d, want %d at %d", piece, events, e, s.At(), want, place)
				}
			}
			if events, e := s.End(); len(events) != 0 || e != want || s.At() != place {
				t.Errorf("End: %v, %d at %d, want %d at %d", events, e, s.At(), want, place)
			}
		}
	}
	for _, c := range errors {
		s := scan.New()
		events, e := s.Feed(c.s)
		if e != api.OK && (e != c.e || s.At() != c.place || len(events) != 0) {
			t.Errorf("Feed(%q): %v, %d at %d", c.s, events, e, s.At())
		}
		if e == api.OK {
			if events, e = s.End(); e != c.e || s.At() != c.place || len(events) != 0 {
				t.Errorf("End behind %q: %v, %d at %d", c.s, events, e, s.At())
			}
		}
		again(s, c.e, c.place)
	}
}

// P3.2, P3.3: after the end.
func TestDown(t *testing.T) {
	s := scan.New()
	if events, e := s.Feed("<a/> "); len(events) != 2 || e != api.OK {
		t.Errorf("Feed: %v, %d", events, e)
	}
	if events, e := s.End(); len(events) != 0 || e != api.OK || s.At() != 5 {
		t.Errorf("End: %v, %d at %d", events, e, s.At())
	}
	for range 2 {
		for _, piece := range []string{"", " ", "<", "\xff", "<!-- -->"} {
			if events, e := s.Feed(piece); len(events) != 0 || e != api.ErrDown || s.At() != 5 {
				t.Errorf("Feed(%q): %v, %d at %d", piece, events, e, s.At())
			}
		}
		if events, e := s.End(); len(events) != 0 || e != api.ErrDown || s.At() != 5 {
			t.Errorf("End: %v, %d at %d", events, e, s.At())
		}
	}
}

// P3.3: without an error, how many bytes were given.
func TestAt(t *testing.T) {
	s := scan.New()
	if s.At() != 0 {
		t.Errorf("At is %d at first", s.At())
	}
	for _, c := range []struct {
		piece string
		at    int
	}{{"", 0}, {"<a", 2}, {">\r", 4}, {"\n\xc3", 6}, {"\xa9", 7}, {"", 7}, {"&lt", 10}} {
		if _, e := s.Feed(c.piece); e != api.OK || s.At() != c.at {
			t.Errorf("Feed(%q): %d at %d, want %d", c.piece, e, s.At(), c.at)
		}
	}
	if _, e := s.Feed("; <"); e != api.OK || s.At() != 13 {
		t.Errorf("Feed: %d at %d", e, s.At())
	}
	if _, e := s.Feed("?"); e != api.ErrSyntax || s.At() != 13 {
		t.Errorf("Feed: %d at %d", e, s.At())
	}
}
