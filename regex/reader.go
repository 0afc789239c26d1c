package regex

import (
	"strings"
	"unicode/utf8"

	"gabarit/api"
	"gabarit/chars"
)

const (
	// signs mean something of their own outside of sets, and setSigns in them.
	signs    = `.\?*+{}()[]|`
	setSigns = `[]\-^`
	// none stands for the next character where none stands.
	none = -1
)

// wrong is the byte at which a text goes wrong: the reader leaves by a panic with it.
type wrong int

// reader reads the text of an expression, character by character.
type reader struct {
	left []int32 // the characters that are not yet read, up to bytes that are none
	at   int     // the byte behind those that are
}

// Parse returns the expression of a text; or the byte at which it goes wrong.
func Parse(text string) (x api.Regex, at int, e api.Errno) {
	if len(text) > api.MaxText {
		return api.Regex{}, 0, api.ErrLong
	}
	defer func() {
		if place, left := recover().(wrong); left {
			x, at, e = api.Regex{}, int(place), api.ErrForm
		}
	}()
	x = read(text)
	if !small(x) {
		return api.Regex{}, 0, api.ErrLong
	}
	return x, 0, api.OK
}

// read returns the expression of a text, or leaves by a panic.
func read(text string) api.Regex {
	list, bad, e := chars.Decode(text)
	if e != api.OK {
		list, _, _ = chars.Decode(text[:bad])
	}
	r := &reader{left: list}
	x := r.alternatives()
	if r.at < len(text) {
		panic(wrong(r.at))
	}
	return x
}

// peek returns the next character, or none.
func (r *reader) peek() int32 {
	if len(r.left) == 0 {
		return none
	}
	return r.left[0]
}

// sees reports whether the next character is one of some signs.
func (r *reader) sees(of string) bool { return strings.ContainsRune(of, r.peek()) }

// take reads the next character, whatever it is.
func (r *reader) take() int32 {
	c := r.peek()
	if c == none {
		panic(wrong(r.at))
	}
	r.left = r.left[1:]
	r.at += utf8.RuneLen(c)
	return c
}

// takes reads the next character if it is this one.
func (r *reader) takes(c int32) bool {
	if r.peek() != c {
		return false
	}
	r.take()
	return true
}

// expect reads the next character, which must be this one.
func (r *reader) expect(c int32) {
	if !r.takes(c) {
		panic(wrong(r.at))
	}
}

func (r *reader) alternatives() api.Regex {
	args := []api.Regex{r.sequence()}
	for r.takes('|') {
		args = append(args, r.sequence())
	}
	if len(args) == 1 {
		return args[0]
	}
	return api.Regex{Kind: api.RxAlt, Args: args}
}

func (r *reader) sequence() api.Regex {
	var args []api.Regex
	for r.peek() != none && (!r.sees(signs) || r.sees(`.\([`)) {
		args = append(args, r.repetition())
	}
	switch len(args) {
	case 0:
		return api.Regex{Kind: api.RxEmpty}
	case 1:
		return args[0]
	}
	return api.Regex{Kind: api.RxSeq, Args: args}
}

// repetition reads a unit, and how often it is repeated.
func (r *reader) repetition() api.Regex {
	x := r.unit()
	low, high := 0, unlimited
	switch {
	case r.takes('?'):
		high = 1
	case r.takes('*'):
	case r.takes('+'):
		low = 1
	case r.takes('{'):
		low, high = r.bounds()
	default:
		return x
	}
	return api.Regex{Kind: api.RxTimes, Args: []api.Regex{x}, Low: low, High: high}
}

// bounds reads what stands behind a {.
func (r *reader) bounds() (low, high int) {
	low = r.number()
	high = low
	if r.takes(',') {
		high = unlimited
		if r.peek() != '}' {
			high = r.number()
		}
	}
	// Behind numbers that are wrong, the } is, as anything else is that stands there.
	if !isTimes(low, high) {
		panic(wrong(r.at))
	}
	r.expect('}')
	return low, high
}

// number reads a number of one or two digits.
func (r *reader) number() int {
	n := r.digit()
	if n > 0 && isDigit(r.peek()) {
		n = 10*n + r.digit()
	}
	return n
}

func (r *reader) digit() int {
	if !isDigit(r.peek()) {
		panic(wrong(r.at))
	}
	return int(r.take() - '0')
}

func isDigit(c int32) bool { return '0' <= c && c <= '9' }

func (r *reader) unit() api.Regex {
	switch {
	case r.takes('('):
		x := r.alternatives()
		r.expect(')')
		return x
	case r.peek() == '[':
		return api.Regex{Kind: api.RxSet, Set: r.set()}
	case r.takes('.'):
		return api.Regex{Kind: api.RxSet, Set: others(setOf('\n', '\n', '\r', '\r'))}
	case r.takes('\\'):
		return api.Regex{Kind: api.RxSet, Set: r.escaped()}
	}
	c := r.take()
	return api.Regex{Kind: api.RxSet, Set: setOf(c, c)}
}

// escaped reads what stands behind a \, and returns the set for which both stand.
func (r *reader) escaped() []api.Range {
	if set := class(r.peek()); len(set) > 0 {
		r.take()
		return set
	}
	c := r.escapedSingle()
	return setOf(c, c)
}

// escapedSingle reads what stands behind the \ of a single escape.
func (r *reader) escapedSingle() int32 {
	switch {
	case r.takes('n'):
		return '\n'
	case r.takes('r'):
		return '\r'
	case r.takes('t'):
		return '\t'
	case r.sees(signs) || r.sees(setSigns):
		return r.take()
	}
	panic(wrong(r.at))
}

// class returns the set of the class escape with this letter, or nothing.
func class(letter int32) []api.Range {
	switch letter {
	case 'd':
		return setOf('0', '9')
	case 's':
		return setOf('\t', '\n', '\r', '\r', ' ', ' ')
	case 'w':
		return setOf('0', '9', 'A', 'Z', '_', '_', 'a', 'z')
	case 'D', 'S', 'W':
		return others(class(letter - 'A' + 'a'))
	}
	return nil
}

func (r *reader) set() []api.Range {
	r.expect('[')
	negated := r.takes('^')
	items := [][]api.Range{r.item()}
	for !r.sees("-]") {
		items = append(items, r.item())
	}
	set := together(items)
	if negated {
		set = others(set)
	}
	if r.takes('-') {
		set = merged(set, r.set(), inFirst)
	}
	// In a set without a character, the ] is wrong, as anything else is that stands there.
	if len(set) == 0 {
		panic(wrong(r.at))
	}
	r.expect(']')
	return set
}

// item reads a character, a range or a class escape of a set.
func (r *reader) item() []api.Range {
	if r.peek() == '\\' && len(r.left) > 1 {
		if set := class(r.left[1]); len(set) > 0 {
			r.take()
			r.take()
			return set
		}
	}
	low := r.single()
	// Behind a -, a [ begins the set that is taken away, and anything else must be the end of a range.
	if r.peek() != '-' || len(r.left) > 1 && r.left[1] == '[' {
		return setOf(low, low)
	}
	r.take()
	at := r.at
	high := r.single()
	if high < low {
		panic(wrong(at))
	}
	return merged(setOf(low, high), characters(), inBoth)
}

// single reads a character of a set.
func (r *reader) single() int32 {
	if r.takes('\\') {
		return r.escapedSingle()
	}
	if r.sees(setSigns) {
		panic(wrong(r.at))
	}
	return r.take()
}
