package scan_test

import (
	"strconv"
	"strings"
	"testing"

	"gabarit/api"
	"gabarit/scan"
)

// filled returns a document of so many bytes with s before its end tag.
func filled(size int, s string) string {
	return "<a>" + strings.Repeat("b", size-len("<a></a>")-len(s)) + s + "</a>"
}

// checkAll compares what Scan, and a scanner that is given pieces, answer with an error.
func checkAll(t *testing.T, what, s string, e api.Errno, place int) {
	t.Helper()
	got := whole(s)
	if got.e != e || got.place != place || e != api.OK && len(got.events) != 0 {
		t.Errorf("%s: %d events, %d at %d, want %d at %d", what, len(got.events), got.e, got.place, e, place)
	}
	for _, size := range []int{1, 7, 59999, 60001} {
		var pieces []string
		for rest := s; rest != ""; {
			n := min(size, len(rest))
			pieces = append(pieces, rest[:n])
			rest = rest[n:]
		}
		if o := fed(t, pieces); o.e != e || o.place != place || !sameEvents(o.events, got.events) {
			t.Errorf("%s in pieces of %d: %d events, %d at %d", what, size, len(o.events), o.e, o.place)
		}
	}
}

// P3.1: MaxText.
func TestLongText(t *testing.T) {
	most := filled(60000, "")
	for _, c := range []struct {
		what, s string
		e       api.Errno
		place   int
	}{
		{"as much as there may be", most, api.OK, 0},
		{"a blank too much", most + " ", api.ErrLong, 60000},
		{"a byte too much in a text", filled(60001, ""), api.ErrLong, 60000},
		{"much more", most + strings.Repeat(" ", 1000), api.ErrLong, 60000},
		{"what is wrong behind the limit", most + "<<<", api.ErrLong, 60000},
		{"no character at the limit", most + "\xff", api.ErrForm, 60000},
		{"no character behind the limit", most + " \xff", api.ErrLong, 60000},
		{"the beginning of a character at the limit", most + "\xc3", api.ErrForm, 60000},
		{"no character before the limit", most[:59999] + "\xff", api.ErrForm, 59999},
		{"no character across the limit", most[:59999] + "\xc3\xc3", api.ErrForm, 59999},
		{"the beginning of a character before the limit", most[:59999] + "\xe2", api.ErrForm, 59999},
		{"two bytes across the limit", most[:59999] + "é", api.ErrLong, 60000},
		{"three bytes across the limit", most[:59998] + "€", api.ErrLong, 60000},
		{"two bytes up to the limit", filled(59998, "") + "\r\n", api.OK, 0},
		{"a 10 that is left out behind the limit", filled(59999, "") + "\r\n", api.ErrLong, 60000},
		{"a 13 at the limit", filled(59999, "") + "\r", api.OK, 0},
		{"what is wrong at the limit", filled(59999, "") + "b", api.ErrSyntax, 59999},
		{"no end at the limit", most[:59999], api.ErrEnd, 59999},
		{"no end with all bytes", most[:59996] + "bbbb", api.ErrEnd, 60000},
		{"a reference behind the limit", most[:59990] + "&bbbbbbbbb-", api.ErrLong, 60000},
		{"a tag that is wrong behind the limit", most[:59990] + "</bbbbbbbb>", api.ErrLong, 60000},
		{"a comment", "<a/><!--" + strings.Repeat("€", 19996) + "x-->", api.OK, 0},
		{"a comment that is longer", "<a/><!--" + strings.Repeat("€", 19996) + "xx-->", api.ErrLong, 60000},
	} {
		checkAll(t, c.what, c.s, c.e, c.place)
	}
}

// P3.1: as far as it has been given, a text of MaxText bytes, and bytes behind it that are no character yet, are not wrong.
func TestLongSoFar(t *testing.T) {
	s := scan.New()
	if _, e := s.Feed(filled(60000, "")); e != api.OK || s.At() != 60000 {
		t.Errorf("Feed: %d at %d", e, s.At())
	}
	if _, e := s.Feed("\xc3"); e != api.OK || s.At() != 60001 {
		t.Errorf("Feed: %d at %d", e, s.At())
	}
	if _, e := s.Feed("\xa9"); e != api.ErrLong || s.At() != 60000 {
		t.Errorf("Feed: %d at %d", e, s.At())
	}
}

// attributes returns n attributes of one tag.
func attributes(n int) string {
	var b strings.Builder
	for i := range n {
		b.WriteString(" x" + strconv.Itoa(i) + "=''")
	}
	return b.String()
}

// P3.1: MaxNodes.
func TestManyNodes(t *testing.T) {
	declared := " xmlns='u' xmlns:p='u' xmlns:q='u'"
	elements := func(n int) string { return strings.Repeat("<b/>", n) }
	texts := func(n int) string { return strings.Repeat("<b/>c", n) }
	for _, c := range []struct {
		what, s string
		e       api.Errno
		place   int
	}{
		{"300 elements", "<a>" + elements(299) + "</a>", api.OK, 0},
		{"301 elements", "<a>" + elements(300) + "</a>", api.ErrLong, 3 + 4*299},
		{"300 attributes", "<a" + attributes(299) + "/>", api.OK, 0},
		{"301 with attributes", "<a" + attributes(300) + "/>", api.ErrLong, 0},
		{"301 with attributes further in", "<a>" + elements(100) + "<b" + attributes(200) + "/></a>", api.ErrLong, 403},
		{"300 with attributes further in", "<a>" + elements(100) + "<b" + attributes(198) + "/></a>", api.OK, 0},
		{"declarations do not count", "<a" + declared + attributes(299) + "/>", api.OK, 0},
		{"301 with declarations", "<a" + declared + attributes(300) + "/>", api.ErrLong, 0},
		{"300 with texts", "<a>c" + texts(149) + "</a>", api.OK, 0},
		{"301 with a text", "<a>" + texts(149) + "<b/><!--c-->c<!--c--></a>", api.ErrLong, 3 + 5*149 + 4 + 8},
		{"301 with a text before a start", "<a>" + texts(149) + "<b/>c<b/></a>", api.ErrLong, 3 + 5*149 + 4},
		{"301 with an element behind a text", "<a>c" + texts(149) + "<b/></a>", api.ErrLong, 4 + 5*149},
		{"texts and comments", "<a>c<!---->c<![CDATA[]]>c" + texts(149) + "</a>", api.OK, 0},
		{"a text, before another end tag", "<a>" + texts(149) + "<b/>c</b>", api.ErrLong, 3 + 5*149 + 4},
		{"a text, before attributes that are twice", "<a>" + texts(149) + "<b/>c<b x='' x=''/>", api.ErrLong, 3 + 5*149 + 4},
		{"a text, before a prefix", "<a>" + texts(149) + "<b/>c<p:b/>", api.ErrLong, 3 + 5*149 + 4},
		{"a text, before what is wrong in a tag", "<a>" + texts(149) + "<b/>c<b x=''!", api.ErrSyntax, 3 + 5*149 + 4 + 8},
		{"another end tag behind many nodes", "<a>" + elements(299) + "</b>", api.ErrTag, 3 + 4*299},
		{"attributes that are twice, in a tag with many", "<a" + attributes(300) + " x0=''/>", api.ErrAttr, 3 + len(attributes(300))},
		{"a prefix, in a tag with many", "<a" + attributes(300) + " p:x=''/>", api.ErrPrefix, 0},
		{"names that are equal, in a tag with many", "<a" + declared + attributes(300) + " p:x='' q:x=''/>", api.ErrAttr, 0},
	} {
		checkAll(t, c.what, c.s, c.e, c.place)
	}
}

// P3.1: MaxDeep.
func TestDeep(t *testing.T) {
	deep := func(n int) string { return strings.Repeat("<a>", n) + strings.Repeat("</a>", n) }
	checkAll(t, "40 elements", deep(40), api.OK, 0)
	checkAll(t, "41 elements", deep(41), api.ErrLong, 120)
	checkAll(t, "40 elements, one of them empty", strings.Repeat("<a>", 39)+"<b/><b/>"+strings.Repeat("</a>", 39), api.OK, 0)
	checkAll(t, "41 elements, one of them empty", strings.Repeat("<a>", 40)+"<b/>", api.ErrLong, 120)
	checkAll(t, "41 elements, one of them with a prefix", strings.Repeat("<a>", 40)+"<p:b/>", api.ErrPrefix, 120)
	checkAll(t, "more and more", "<r>"+deep(39)+deep(39)+"</r>", api.OK, 0)
}

// P3.1: MaxWord.
func TestLongNames(t *testing.T) {
	as := func(n int) string { return strings.Repeat("a", n) }
	for _, c := range []struct {
		what, s string
		e       api.Errno
		place   int
	}{
		{"an element", "<" + as(200) + "></" + as(200) + ">", api.OK, 0},
		{"an element that is too long", "<" + as(201) + "/>", api.ErrLong, 0},
		{"bytes, not characters", "<b><" + strings.Repeat("é", 101) + "/></b>", api.ErrLong, 3},
		{"an attribute", "<b " + as(200) + "=''/>", api.OK, 0},
		{"an attribute that is too long", "<c><b " + as(201) + "=''/></c>", api.ErrLong, 3},
		{"a second attribute that is too long", "<b x='' " + as(201) + "='' y=''/>", api.ErrLong, 0},
		{"local parts", "<" + as(300) + ":" + as(200) + " xmlns:" + as(300) + "='u' " + as(300) + ":" + as(200) + "=''/>", api.OK, 0},
		{"a local part that is too long", "<p:" + as(201) + " xmlns:p='u'/>", api.ErrLong, 0},
		{"a local part of an attribute that is too long", "<b p:" + as(201) + "='' xmlns:p='u'/>", api.ErrLong, 0},
		{"a space", "<b xmlns='" + as(200) + "'/>", api.OK, 0},
		{"a space that is too long", "<b xmlns='" + as(201) + "'/>", api.ErrLong, 0},
		{"a space that is too long, further in", "<p:b xmlns:p='u' xmlns='" + as(201) + "'><c/></p:b>", api.ErrLong, 16 + 8 + 201 + 2},
		{"a space that is too long, but not used", "<b xmlns:p='" + as(201) + "'/>", api.OK, 0},
		{"a space of an attribute", "<b p:x='' xmlns:p='" + as(200) + "'/>", api.OK, 0},
		{"a space of an attribute that is too long", "<b p:x='' xmlns:p='" + as(201) + "'/>", api.ErrLong, 0},
		{"a space of 200 bytes, with an escape", "<b xmlns='" + as(199) + "&#65;'/>", api.OK, 0},
		{"twice, and too long", "<b " + as(201) + "='' " + as(201) + "=''/>", api.ErrAttr, 3 + 201 + 4},
		{"no space, and too long", "<p:" + as(201) + "/>", api.ErrPrefix, 0},
		{"equal names, and too long", "<" + as(201) + " xmlns:p='u' xmlns:q='u' p:x='' q:x=''/>", api.ErrAttr, 0},
		{"another end tag, and too long", "<b></" + as(201) + ">", api.ErrTag, 3},
		{"a value", "<b x='" + as(5000) + "'/>", api.OK, 0},
	} {
		checkAll(t, c.what, c.s, c.e, c.place)
	}
}
