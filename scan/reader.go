package scan

import (
	"bytes"
	"unicode/utf8"

	"gabarit/api"
	"gabarit/chars"
)

// maxReference is how many letters a reference may have between its & and its ;.
const maxReference = 24

// reader goes over the characters of a text.
type reader struct {
	state      func(c int32) // is given the next character
	at         int           // the place of that character
	behind13   bool          // whether a 13 stands directly before it
	whole      bool          // whether what was read is a document
	fault      api.Errno
	place      int // of fault
	events     []api.Event
	nodes      int       // elements, attributes and texts so far
	open       []element // the elements that have begun and not ended, the root first
	text       []byte    // waits for the tag behind it
	textAt     int
	brackets   int             // how many ] stand directly before, in content
	markup     int             // the place of the last < of a tag, a comment or a cdata
	tag        tag             // the tag that is being read
	sign       int32           // of the value that is being read
	value      []byte          // what was read of it
	word       []byte          // what was read of a raw name, a reference or a cdata
	wordAt     int             // the place where it begins
	wordIsOver func(is string) // is handed the raw name, or the character of the reference
}

func newReader() *reader {
	r := &reader{}
	r.state = r.outside
	return r
}

// read reads the character c of size bytes, or one byte that begins none.
func (r *reader) read(c int32, size int) {
	switch {
	case c == utf8.RuneError && size == 1 || !chars.Valid(c):
		r.fail(api.ErrForm, r.at)
	case r.at+size > api.MaxText:
		r.fail(api.ErrLong, api.MaxText)
	case c == 10 && r.behind13:
	case c == 13:
		r.state(10)
	default:
		r.state(c)
	}
	r.behind13 = c == 13
	r.at += size
}

// take returns the events that are new.
func (r *reader) take() []api.Event {
	events := r.events
	r.events = nil
	return events
}

func (r *reader) fail(e api.Errno, place int) { r.fault, r.place = e, place }

// wrong says that no document goes on with the character that is being read.
func (r *reader) wrong() { r.fail(api.ErrSyntax, r.at) }

// goOn goes to what may stand behind a tag, a comment or a cdata.
func (r *reader) goOn() {
	if len(r.open) > 0 {
		r.state = r.content
		return
	}
	r.state = r.outside
	r.whole = r.nodes > 0
}

// outside reads what stands before and behind the root.
func (r *reader) outside(c int32) {
	switch {
	case c == '<':
		r.whole = false
		r.beginMarkup()
	case !chars.Blank(c):
		r.wrong()
	}
}

// content reads the characters of an element.
func (r *reader) content(c int32) {
	switch {
	case c == '<':
		r.beginMarkup()
	case c == '&':
		at := r.at
		r.beginReference(func(is string) {
			r.addText(is, at)
			r.state = r.content
		})
	case c == '>' && r.brackets >= 2:
		r.wrong()
	default:
		r.addText(string(c), r.at)
	}
	if c == ']' {
		r.brackets++
	} else {
		r.brackets = 0
	}
}

// addText puts s, which stands at that place, to the text that waits.
func (r *reader) addText(s string, at int) {
	if len(r.text) == 0 {
		r.textAt = at
	}
	r.text = append(r.text, s...)
}

func (r *reader) beginMarkup() {
	r.markup = r.at
	r.state = r.opened
}

// opened reads what stands behind a <.
func (r *reader) opened(c int32) {
	inside := len(r.open) > 0
	switch {
	case c == '!':
		r.state = r.exclaimed
	case c == '/' && inside:
		r.beginName(func(is string) {
			r.tag = tag{at: r.markup, raw: is}
			r.state = r.endTag
		})
	case inside || r.nodes == 0:
		r.beginName(func(is string) {
			r.tag = tag{at: r.markup, raw: is}
			r.state = r.startTag
		})
		r.state(c)
	default:
		r.wrong()
	}
}

// exclaimed reads what stands behind a <!.
func (r *reader) exclaimed(c int32) {
	switch {
	case c == '-':
		r.expect("-", r.comment)
	case c == '[' && len(r.open) > 0:
		r.word = nil
		r.expect("CDATA[", r.cdata)
	default:
		r.wrong()
	}
}

// expect reads these letters, and then goes to that state.
func (r *reader) expect(letters string, then func(c int32)) {
	r.state = func(c int32) {
		if c != int32(letters[0]) {
			r.wrong()
			return
		}
		letters = letters[1:]
		if letters == "" {
			r.state = then
		}
	}
}

func (r *reader) comment(c int32) {
	if c == '-' {
		r.state = r.hyphen
	}
}

// hyphen reads what stands behind a hyphen in a comment.
func (r *reader) hyphen(c int32) {
	if c == '-' {
		r.state = r.hyphens
	} else {
		r.state = r.comment
	}
}

// hyphens reads what stands behind two hyphens in a comment.
func (r *reader) hyphens(c int32) {
	if c != '>' {
		r.wrong()
		return
	}
	r.goOn()
}

func (r *reader) cdata(c int32) {
	is, over := bytes.CutSuffix(r.word, []byte("]]"))
	if !over || c != '>' {
		r.word = utf8.AppendRune(r.word, c)
		return
	}
	r.addText(string(is), r.markup)
	r.goOn()
}

// beginName reads a raw name from the next character on, and hands it over.
func (r *reader) beginName(over func(is string)) {
	r.word, r.wordIsOver = nil, over
	r.state = r.firstOfName
}

func (r *reader) firstOfName(c int32) {
	if !chars.First(c) {
		r.wrong()
		return
	}
	r.word = utf8.AppendRune(r.word, c)
	r.state = r.innerOfName
}

func (r *reader) innerOfName(c int32) {
	switch {
	case chars.Inner(c):
		r.word = utf8.AppendRune(r.word, c)
	case c == ':' && !bytes.ContainsRune(r.word, ':'):
		r.word = append(r.word, ':')
		r.state = r.firstOfName
	default:
		r.wordIsOver(string(r.word))
		r.state(c)
	}
}

// beginReference reads the reference whose & is being read, and hands over what it stands for.
func (r *reader) beginReference(over func(is string)) {
	r.word, r.wordAt, r.wordIsOver = []byte("&"), r.at, over
	r.state = r.reference
}

func (r *reader) reference(c int32) {
	inner := c == '#' || '0' <= c && c <= '9' || 'a' <= c && c <= 'z' || 'A' <= c && c <= 'Z'
	switch {
	case inner && len(r.word) < len("&")+maxReference:
		r.word = utf8.AppendRune(r.word, c)
		return
	case c == ';':
		is, _, e := chars.Unescape(string(r.word) + ";")
		if e == api.OK {
			r.wordIsOver(is)
			return
		}
	}
	r.fail(api.ErrEntity, r.wordAt)
}
