package scan_test

import (
	"math/rand/v2"
	"slices"
	"strings"
	"testing"

	"gabarit/api"
	"gabarit/scan"
)

// R5, P3.2: methods of what New has not returned.
func TestNoScanner(t *testing.T) {
	copied := *scan.New()
	used := scan.New()
	used.Feed("<a/>")
	copiedLater := *used
	for i, s := range []*scan.Scanner{nil, {}, new(scan.Scanner), &copied, &copiedLater} {
		for _, piece := range []string{"", "<a/>", "b", "\xff"} {
			if events, e := s.Feed(piece); len(events) != 0 || e != api.ErrNil {
				t.Errorf("%d: Feed(%q): %v, %d", i, piece, events, e)
			}
		}
		if events, e := s.End(); len(events) != 0 || e != api.ErrNil || s.At() != 0 {
			t.Errorf("%d: End: %v, %d at %d", i, events, e, s.At())
		}
	}
	if events, e := used.End(); len(events) != 0 || e != api.OK || used.At() != 4 {
		t.Errorf("the scanner that was copied: %v, %d at %d", events, e, used.At())
	}
}

// R1, R2: for all texts, every function returns; with an error, all other results but places are zero.
func TestAllTexts(t *testing.T) {
	randoms(t, 60000, func(r *rand.Rand) {
		s := some(r, 12, soup...)
		if r.IntN(3) == 0 {
			b := []byte(s)
			for range r.IntN(4) {
				b = append(b, byte(r.Uint32()))
			}
			s = string(b)
		}
		events, place, e := scan.Scan(s)
		if e != api.OK && len(events) != 0 || e == api.OK && place != 0 || place < 0 || place > len(s) {
			t.Errorf("Scan(%q): %v, %d, %d", s, events, place, e)
		}
	})
}

// R3: results share no memory with the scanner, or with each other.
func TestMemory(t *testing.T) {
	s := scan.New()
	first, _ := s.Feed("<a xmlns:p='u' p:x='1' y='2'>b<c z='3'>")
	kept := slices.Clone(first)
	for i := range kept {
		kept[i].Attrs = slices.Clone(kept[i].Attrs)
	}
	more := append(first, api.Event{Kind: 7})
	second, _ := s.Feed("d</c><p:e w='4'/>f")
	if !sameEvents(first, kept) || more[len(more)-1].Kind != 7 {
		t.Errorf("the first events are %v, were %v", first, kept)
	}
	for i := range first {
		for j := range first[i].Attrs {
			first[i].Attrs[j] = api.Attr{}
		}
		first[i] = api.Event{}
	}
	third, e := s.Feed("</a>")
	want := []api.Event{text(39, "d"), end(40), start(44, "u:e", "w", "4"), end(54), text(56, "f"), end(57)}
	if got := slices.Concat(second, third); e != api.OK || !sameEvents(got, want) {
		t.Errorf("%v, %d, want %v", got, e, want)
	}
	one, _, _ := scan.Scan("<a x='1' y='2'><b x='1' y='2'/></a>")
	two, _, _ := scan.Scan("<a x='1' y='2'><b x='1' y='2'/></a>")
	_ = append(one[0].Attrs, api.Attr{Value: "3"})
	one[0].Attrs[1].Value = "4"
	if one[1].Attrs[0].Value != "1" || one[1].Attrs[1].Value != "2" || two[0].Attrs[1].Value != "2" {
		t.Errorf("%v and %v", one, two)
	}
}

// R6: scanners are independent, and results depend only on the texts.
func TestIndependent(t *testing.T) {
	randoms(t, 1000, func(r *rand.Rand) {
		var l [3]*scan.Scanner
		var rest, texts [3]string
		var got [3]outcome
		for i := range l {
			l[i] = scan.New()
			texts[i] = randomText(r)
			rest[i] = texts[i]
		}
		for strings.Join(rest[:], "") != "" {
			i := r.IntN(3)
			n := min(len(rest[i]), r.IntN(6))
			events, e := l[i].Feed(rest[i][:n])
			got[i].events, got[i].e = append(got[i].events, events...), e
			rest[i] = rest[i][n:]
		}
		for i, s := range l {
			if _, e := s.End(); e != api.OK {
				got[i] = outcome{e: e, place: s.At()}
			}
			if want := whole(texts[i]); want.e != got[i].e || want.place != got[i].place || !sameEvents(want.events, got[i].events) {
				t.Errorf("%q: %v, want %v", texts[i], got[i], want)
			}
		}
	})
}

// R7: texts that are large.
func TestLarge(t *testing.T) {
	large := strings.Repeat("<a>", 1<<20)
	if _, place, e := scan.Scan(large); place != 120 || e != api.ErrLong {
		t.Errorf("%d at %d", e, place)
	}
	s := scan.New()
	for range 100 {
		s.Feed(strings.Repeat(" ", 1<<16))
	}
	if _, e := s.End(); e != api.ErrLong || s.At() != 60000 {
		t.Errorf("%d at %d", e, s.At())
	}
}
