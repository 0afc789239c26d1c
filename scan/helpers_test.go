package scan_test

import (
	"math/rand/v2"
	"reflect"
	"regexp"
	"slices"
	"strings"
	"sync"
	"testing"

	"gabarit/api"
	"gabarit/chars"
	"gabarit/scan"
)

// The form of a document as regular expressions; what is nested is left to isElement.
const (
	blank     = `[ \t\n\r]`
	firstChar = `[a-zA-Z_\x{C0}-\x{D6}\x{D8}-\x{F6}\x{F8}-\x{10FFFF}]`
	innerChar = `[a-zA-Z_\x{C0}-\x{D6}\x{D8}-\x{F6}\x{F8}-\x{10FFFF}0-9.\x{B7}-]`
	local     = firstChar + innerChar + `*`
	rawName   = local + `(?::` + local + `)?`
	reference = `&[a-zA-Z0-9#]{0,24};`
	value     = `(?:"(?:[^"<&]|` + reference + `)*"|'(?:[^'<&]|` + reference + `)*')`
	attribute = rawName + blank + `*=` + blank + `*` + value
)

var (
	attributeForm = regexp.MustCompile(`(` + rawName + `)` + blank + `*=` + blank + `*(` + value + `)`)
	startForm     = regexp.MustCompile(`^<(` + rawName + `)(?:` + blank + `+` + attribute + `)*` + blank + `*(/?)>`)
	endForm       = regexp.MustCompile(`^</(` + rawName + `)` + blank + `*>`)
	commentForm   = regexp.MustCompile(`^<!--(?:[^-]|-[^-])*-->`)
	cdataForm     = regexp.MustCompile(`(?s)^<!\[CDATA\[(.*?)\]\]>`)
	referenceForm = regexp.MustCompile(reference)
	openReference = regexp.MustCompile(`&[a-zA-Z0-9#]{0,24}$`)
	outsideForm   = regexp.MustCompile(`^(?:` + blank + `|` + strings.TrimPrefix(commentForm.String(), "^") + `)*`)
	charsForm     = regexp.MustCompile(`^[^<&]+`)
)

// without returns s without what the form matches at its beginning.
func without(s string, form *regexp.Regexp) (string, bool) {
	m := form.FindString(s)
	return s[len(m):], m != ""
}

// isDocument reports whether a text has the form of a document.
func isDocument(s string) bool {
	s, _ = without(s, outsideForm)
	s, ok := withoutElement(s)
	if !ok {
		return false
	}
	s, _ = without(s, outsideForm)
	return s == ""
}

// withoutElement returns s without the element at its beginning, if there is one.
func withoutElement(s string) (string, bool) {
	start := startForm.FindStringSubmatch(s)
	if start == nil {
		return s, false
	}
	s = s[len(start[0]):]
	if start[2] == "/" {
		return s, true
	}
	for {
		if rest, ok := without(s, endForm); ok {
			return rest, true
		}
		rest, ok := withoutPart(s)
		if !ok {
			return s, false
		}
		s = rest
	}
}

// withoutPart returns s without the part of a content at its beginning, if there is one.
func withoutPart(s string) (string, bool) {
	switch {
	case strings.HasPrefix(s, "<!--"):
		return without(s, commentForm)
	case strings.HasPrefix(s, "<!"):
		return without(s, cdataForm)
	case strings.HasPrefix(s, "<"):
		return withoutElement(s)
	case strings.HasPrefix(s, "&"):
		m := referenceForm.FindStringIndex(s)
		if m == nil || m[0] != 0 {
			return s, false
		}
		return s[m[1]:], true
	}
	m := charsForm.FindString(s)
	return s[len(m):], m != "" && !strings.Contains(m, "]]>")
}

// ways to end what a text may be in the middle of.
var ways = strings.Split(`|a/>|/a>|!---->|---->|--->|-->|->|x-->|>|[CDATA[]]>|CDATA[]]>|DATA[]]>|ATA[]]>|TA[]]>|A[]]>|[]]>|]]>|/>|=''/>|a=''/>|''/>|"/>|'/>|;"/>|;'/>|a>|;`, "|")

// canGoOn reports whether a document goes on from s: whether it is one with one of the ways to end what stands at its end, and then a root or end tags.
func canGoOn(s string) bool {
	for _, way := range ways {
		if isDocument(s+way) || isDocument(s+way+"<a/>") {
			return true
		}
		for i := range strings.Count(s, "<") {
			if isDocument(s + way + strings.Repeat("</a>", i+1)) {
				return true
			}
		}
	}
	return false
}

// character returns how many bytes the character at the beginning of s has; 0 if there is none.
func character(s string) int {
	for size := 1; size <= 4 && size <= len(s); size++ {
		if l, _, e := chars.Decode(s[:size]); e == api.OK && len(l) == 1 {
			return size
		}
	}
	return 0
}

// formError returns the first error of a text that tags have no part in, its place, and the byte up to which it was read before.
func formError(s string) (e api.Errno, place, cut int) {
	e, cut = api.OK, len(s)
	for at := 0; at < len(s); {
		size := character(s[at:])
		if size == 0 {
			e, place, cut = api.ErrForm, at, at
			break
		}
		at += size
	}
	var ends []int // of characters
	for at := 0; at < cut; {
		at += character(s[at:])
		ends = append(ends, at)
	}
	first, _ := slices.BinarySearchFunc(ends, true, func(end int, _ bool) int {
		if canGoOn(s[:end]) {
			return -1
		}
		return 0
	})
	if first < len(ends) {
		e, cut = api.ErrSyntax, 0
		if first > 0 {
			cut = ends[first-1]
		}
		place = cut
		if m := openReference.FindStringIndex(s[:cut]); m != nil && !canGoOn(s[:cut]+" ") {
			e, place = api.ErrEntity, m[0]
		}
	}
	if e == api.OK && !isDocument(s) {
		e, place = api.ErrEnd, len(s)
	}
	return e, place, cut
}

// outcome is what is expected of a text: the events up to its error, if it has one.
type outcome struct {
	events []api.Event
	e      api.Errno
	place  int
}

// expected reads a text straight from the definitions (but for MaxText).
func expected(s string) outcome {
	e, place, cut := formError(s)
	m := model{s: s[:cut], spaces: []map[string]string{{"": "", "xml": "xml"}}}
	for m.e == api.OK && m.at < cut && m.step() {
	}
	if m.e != api.OK {
		return outcome{m.events, m.e, m.place}
	}
	return outcome{m.events, e, place}
}

// model goes over the parts of the beginning of a document.
type model struct {
	s      string
	at     int
	events []api.Event
	e      api.Errno
	place  int
	text   string
	textAt int
	nodes  int
	raws   []string
	spaces []map[string]string // of each open element, all of them
}

func (m *model) fail(e api.Errno, place int) { m.e, m.place = e, place }

// step goes over one part; false if it is not there as a whole.
func (m *model) step() bool {
	s := m.s[m.at:]
	size := 0
	if comment := commentForm.FindString(s); comment != "" {
		size = len(comment)
	} else if cdata := cdataForm.FindStringSubmatch(s); cdata != nil {
		m.add(lines(cdata[1]))
		size = len(cdata[0])
	} else if start := startForm.FindStringSubmatch(s); start != nil {
		m.start(start[0], start[1], start[2] != "")
		size = len(start[0])
	} else if end := endForm.FindStringSubmatch(s); end != nil {
		m.end(end[1])
		size = len(end[0])
	} else if s[0] == '<' {
		if !strings.HasPrefix(s, "<!") {
			m.references(s)
		}
		return false
	} else if s[0] == '&' {
		r := referenceForm.FindString(s)
		m.references(r)
		if r == "" || m.e != api.OK {
			return false
		}
		is, _, _ := chars.Unescape(r)
		m.add(is)
		size = len(r)
	} else {
		size = character(s)
		if strings.HasPrefix(s, "\r\n") {
			size = 2
		}
		m.add(lines(s[:size]))
	}
	m.at += size
	return m.e == api.OK
}

// lines returns s with one 10 for each end of a line.
func lines(s string) string {
	return strings.ReplaceAll(strings.ReplaceAll(s, "\r\n", "\n"), "\r", "\n")
}

// references looks for references at m.at, in s, that are no escapes.
func (m *model) references(s string) {
	for _, r := range referenceForm.FindAllStringIndex(s, -1) {
		if _, _, e := chars.Unescape(s[r[0]:r[1]]); e != api.OK {
			m.fail(api.ErrEntity, m.at+r[0])
			return
		}
	}
}

// add puts s, which stands at m.at, to the text.
func (m *model) add(s string) {
	if len(m.raws) == 0 || s == "" {
		return
	}
	if m.text == "" {
		m.textAt = m.at
	}
	m.text += s
}

// endText makes the text an event.
func (m *model) endText() {
	if m.text == "" {
		return
	}
	if m.nodes++; m.nodes > 300 {
		m.fail(api.ErrLong, m.textAt)
		return
	}
	m.events = append(m.events, api.Event{Kind: api.EvText, Text: m.text, At: m.textAt})
	m.text = ""
}

// end is an end tag.
func (m *model) end(raw string) {
	if m.endText(); m.e != api.OK {
		return
	}
	if m.raws[len(m.raws)-1] != raw {
		m.fail(api.ErrTag, m.at)
		return
	}
	m.leave(m.at)
}

func (m *model) leave(at int) {
	m.events = append(m.events, api.Event{Kind: api.EvEnd, At: at})
	m.raws, m.spaces = m.raws[:len(m.raws)-1], m.spaces[:len(m.spaces)-1]
}

// start is a start tag.
func (m *model) start(tag, raw string, empty bool) {
	if m.references(tag); m.e != api.OK {
		return
	}
	if m.endText(); m.e != api.OK {
		return
	}
	var raws, values []string
	for _, a := range attributeForm.FindAllStringSubmatchIndex(tag, -1) {
		name := tag[a[2]:a[3]]
		if slices.Contains(raws, name) {
			m.fail(api.ErrAttr, m.at+a[2])
			return
		}
		v := strings.NewReplacer("\t", " ", "\n", " ").Replace(lines(tag[a[4]+1 : a[5]-1]))
		v, _, _ = chars.Unescape(v)
		raws, values = append(raws, name), append(values, v)
	}
	spaces := map[string]string{}
	for prefix, space := range m.spaces[len(m.spaces)-1] {
		spaces[prefix] = space
	}
	for i, name := range raws {
		prefix, named := strings.CutPrefix(name, "xmlns:")
		switch {
		case name == "xmlns":
			spaces[""] = values[i]
		case named && (prefix == "xml" || prefix == "xmlns" || values[i] == ""):
			m.fail(api.ErrPrefix, m.at)
			return
		case named:
			spaces[prefix] = values[i]
		}
	}
	m.enter(raw, raws, values, spaces)
	if empty && m.e == api.OK {
		m.leave(m.at + len(tag) - 2)
	}
}

// enter begins an element.
func (m *model) enter(raw string, raws, values []string, spaces map[string]string) {
	name, ok := meant(raw, spaces)
	if !ok {
		m.fail(api.ErrPrefix, m.at)
		return
	}
	var attrs []api.Attr
	for i, a := range raws {
		if a == "xmlns" || strings.HasPrefix(a, "xmlns:") {
			continue
		}
		n := api.Name{Local: a}
		if strings.Contains(a, ":") {
			if n, ok = meant(a, spaces); !ok {
				m.fail(api.ErrPrefix, m.at)
				return
			}
		}
		attrs = append(attrs, api.Attr{Name: n, Value: values[i]})
	}
	long := len(name.Local) > 200 || len(name.Space) > 200
	for i, a := range attrs {
		long = long || len(a.Name.Local) > 200 || len(a.Name.Space) > 200
		for _, b := range attrs[:i] {
			if a.Name == b.Name {
				m.fail(api.ErrAttr, m.at)
				return
			}
		}
	}
	m.nodes += 1 + len(attrs)
	m.raws, m.spaces = append(m.raws, raw), append(m.spaces, spaces)
	if long || len(m.raws) > 40 || m.nodes > 300 {
		m.fail(api.ErrLong, m.at)
		return
	}
	slices.SortFunc(attrs, func(a, b api.Attr) int { return strings.Compare(key(a), key(b)) })
	m.events = append(m.events, api.Event{Kind: api.EvStart, Name: name, Attrs: attrs, At: m.at})
}

// key orders attributes by space, and then by local part.
func key(a api.Attr) string { return a.Name.Space + "\x00" + a.Name.Local }

// meant returns the name that a raw name has where prefixes have these spaces.
func meant(raw string, spaces map[string]string) (api.Name, bool) {
	prefix, name, ok := strings.Cut(raw, ":")
	if !ok {
		prefix, name = "", raw
	}
	space, ok := spaces[prefix]
	return api.Name{Space: space, Local: name}, ok
}

// begun are all strings that are not the bytes of a character, but a beginning of them.
var begun = sync.OnceValue(func() map[string]bool {
	all := map[string]bool{}
	for c := int32(128); c <= 1114111; c++ {
		if !chars.Valid(c) {
			continue
		}
		s := string(c)
		for size := 1; size < len(s); size++ {
			all[s[:size]] = true
		}
	}
	return all
})

// soFar is what is expected of a text that may go on.
func soFar(s string) outcome {
	o := expected(s)
	if o.e == api.ErrEnd || o.e == api.ErrForm && begun()[s[o.place:]] {
		o.e, o.place = api.OK, len(s)
	}
	return o
}

// sameEvents reports whether a and b are the same events; no attributes may be nil or empty.
func sameEvents(a, b []api.Event) bool {
	return slices.EqualFunc(a, b, func(x, y api.Event) bool {
		same := slices.Equal(x.Attrs, y.Attrs)
		x.Attrs, y.Attrs = nil, nil
		return same && reflect.DeepEqual(x, y)
	})
}

// whole is what Scan answers.
func whole(s string) outcome {
	events, place, e := scan.Scan(s)
	return outcome{events, e, place}
}

// check compares what Scan answers with what is wanted.
func check(t *testing.T, s string, want outcome) {
	t.Helper()
	if want.e != api.OK {
		want.events = nil
	}
	if got := whole(s); got.e != want.e || got.place != want.place || !sameEvents(got.events, want.events) {
		t.Errorf("Scan(%.200q):\n%v,\nwant\n%v", s, got, want)
	}
}

// randoms calls try with a source of chance that is always the same.
func randoms(t *testing.T, times int, try func(r *rand.Rand)) {
	t.Helper()
	r := rand.New(rand.NewPCG(1, 2))
	for range times {
		try(r)
		if t.Failed() {
			return
		}
	}
}

// one returns one of l.
func one(r *rand.Rand, l ...string) string { return l[r.IntN(len(l))] }

// some puts up to n of l one behind the other.
func some(r *rand.Rand, n int, l ...string) string {
	var b strings.Builder
	for range r.IntN(n + 1) {
		b.WriteString(one(r, l...))
	}
	return b.String()
}

// randomValue is a value of an attribute, with its signs.
func randomValue(r *rand.Rand) string {
	sign := one(r, `"`, `'`)
	return sign + some(r, 2, "u", "v", "u", "xml", "é", "&lt;", "&#10;", "&quot;", "&apos;", "\t", "\r\n", "\n", "\r", ">", "]]>") + sign
}

// randomElement is an element that is well-formed but for its prefixes and attributes, mostly.
func randomElement(r *rand.Rand, deep int) string {
	raw := one(r, "a", "b", "a", "a-1", "é", "p:a", "q:a", "xml:a", "p:b", "xmlns", "xmlns:a")
	tag := "<" + raw
	for range r.IntN(4) {
		tag += one(r, " ", " ", "\n", " \t", "\r\n")
		if r.IntN(3) == 0 {
			tag += one(r, "x", "y", "p:x", "q:x", "xml:x", "x:y")
		} else {
			tag += one(r, "xmlns", "xmlns:p", "xmlns:q", "xmlns:p", "xmlns:q", "xmlns:x")
		}
		if r.IntN(3) == 0 {
			tag += one(r, "=", " =", "= ", "\r=\n") + randomValue(r)
		} else {
			tag += one(r, "='u'", "='v'", `="w"`, "=''")
		}
	}
	tag += one(r, "", "", " ", "\n")
	if r.IntN(4) == 0 || deep == 0 {
		return tag + "/>"
	}
	tag += ">"
	for range r.IntN(4) {
		tag += randomPart(r, deep-1)
	}
	if r.IntN(12) == 0 {
		raw = "a"
	}
	return tag + "</" + raw + one(r, "", "", " ", "\r\n") + ">"
}

// randomPart is a part of a content.
func randomPart(r *rand.Rand, deep int) string {
	switch r.IntN(6) {
	case 0:
		return one(r, "<!---->", "<!-- c -->", "<!--->-->", "<!--- -->", "<!--]]>-->", "<!--<a>&b;-->")
	case 1:
		return "<![CDATA[" + some(r, 3, "a", "]", ">", "<", "&", "\r\n", "é", "--") + "]]>"
	case 2:
		return one(r, "&lt;", "&amp;", "&#13;", "&#x41;", "&#10;", "&gt;", "&apos;", "&quot;", "&#00000000000000000065;")
	case 3:
		return some(r, 3, "a", "]", ">", "é", "\r", "\n", "\r\n", "\t", " ", "\"", "'", "--")
	}
	return randomElement(r, deep)
}

// randomDocument is mostly a document.
func randomDocument(r *rand.Rand) string {
	around := func() string { return some(r, 1, " ", "\r\n", "<!-- -->", "<!---->") }
	return around() + randomElement(r, 1+r.IntN(3)) + around()
}

// spoiled returns s with a place or two where something else stands.
func spoiled(r *rand.Rand, s string) string {
	for range r.IntN(3) {
		from := r.IntN(len(s) + 1)
		to := min(len(s), from+r.IntN(3))
		s = s[:from] + one(r, soup...) + s[to:]
	}
	return s
}

// soup are pieces of documents.
var soup = []string{
	"<", ">", "/", "!", "a", "b", "1", ":", "=", "'", `"`, " ", "\r", "\n", "\t", "&", ";", "#", "lt", "&lt;", "&lt", "&#65;", "&b;", "&;", "&#0;", "&aaaaaaaaaaaaaaaaaaaaaaaa", "]", "]]>", "-", "--", "<a>", "</a>", "<a/>", "</b>", "<p:a>",
	"<!--", "-->", "<!", "<![", "<![CDATA[", "CDATA[", "xmlns", "xmlns=''", " xmlns:p='u'", " x='1'", " x='1' x='2'", " xmlns:xml='u'", "é", "·", "×", "\ufeff", "\xff", "\xc3", "\xe2\x82", "\x00", "",
}

// randomText is a text that is a document, nearly one, or none.
func randomText(r *rand.Rand) string {
	switch r.IntN(4) {
	case 0:
		return one(r, "", "<a>", "<a>", "<a ", "<a/>") + some(r, 6, soup...) + one(r, "", "</a>", "/>")
	case 1:
		return randomDocument(r)
	}
	return spoiled(r, randomDocument(r))
}
