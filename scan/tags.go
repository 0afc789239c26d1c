package scan

import (
	"unicode/utf8"

	"gabarit/api"
	"gabarit/chars"
)

// startTag reads what stands directly behind a raw name or a value in a start tag.
func (r *reader) startTag(c int32) {
	switch {
	case chars.Blank(c):
		r.state = r.spacedTag
	case c == '/':
		r.state = r.emptyTag
	case c == '>':
		r.begin()
	default:
		r.wrong()
	}
}

// spacedTag reads what stands behind a blank in a start tag.
func (r *reader) spacedTag(c int32) {
	if !chars.First(c) {
		r.startTag(c)
		return
	}
	at := r.at
	r.beginName(func(is string) {
		r.tag.attributes = append(r.tag.attributes, attribute{at: at, raw: is})
		r.state = r.equals
	})
	r.state(c)
}

// equals reads what stands behind the raw name of an attribute.
func (r *reader) equals(c int32) {
	switch {
	case c == '=':
		r.state = r.beforeValue
	case !chars.Blank(c):
		r.wrong()
	}
}

func (r *reader) beforeValue(c int32) {
	switch {
	case c == '"' || c == '\'':
		r.sign, r.value = c, nil
		r.state = r.inValue
	case !chars.Blank(c):
		r.wrong()
	}
}

func (r *reader) inValue(c int32) {
	switch {
	case c == r.sign:
		r.tag.attributes[len(r.tag.attributes)-1].value = string(r.value)
		r.state = r.startTag
	case c == '<':
		r.wrong()
	case c == '&':
		r.beginReference(func(is string) {
			r.value = append(r.value, is...)
			r.state = r.inValue
		})
	case chars.Blank(c):
		r.value = append(r.value, ' ')
	default:
		r.value = utf8.AppendRune(r.value, c)
	}
}

// emptyTag reads what stands behind the / at the end of a start tag.
func (r *reader) emptyTag(c int32) {
	if c != '>' {
		r.wrong()
		return
	}
	r.begin()
	if r.fault == api.OK {
		r.end(r.at - len("/"))
	}
}

// endTag reads what stands behind the raw name of an end tag.
func (r *reader) endTag(c int32) {
	switch {
	case c == '>':
		r.close()
	case !chars.Blank(c):
		r.wrong()
	}
}

// close is what the > of an end tag does.
func (r *reader) close() {
	r.handText()
	switch {
	case r.fault != api.OK:
	case r.tag.raw != r.open[len(r.open)-1].raw:
		r.fail(api.ErrTag, r.tag.at)
	default:
		r.end(r.tag.at)
	}
}

// handText makes the text that waits an event.
func (r *reader) handText() {
	if len(r.text) == 0 {
		return
	}
	r.nodes++
	if r.nodes > api.MaxNodes {
		r.fail(api.ErrLong, r.textAt)
		return
	}
	r.events = append(r.events, api.Event{Kind: api.EvText, Text: string(r.text), At: r.textAt})
	r.text = nil
}

// end ends the innermost element, at that place.
func (r *reader) end(at int) {
	r.events = append(r.events, api.Event{Kind: api.EvEnd, At: at})
	r.open = r.open[:len(r.open)-1]
	r.goOn()
}

// begin is what the > of a start tag does.
func (r *reader) begin() {
	r.handText()
	if r.fault != api.OK {
		return
	}
	event, declared, e, at := r.tag.start(r.around())
	if e != api.OK {
		r.fail(e, at)
		return
	}
	r.nodes += 1 + len(event.Attrs)
	if tooLong(event) || len(r.open) == api.MaxDeep || r.nodes > api.MaxNodes {
		r.fail(api.ErrLong, r.tag.at)
		return
	}
	r.events = append(r.events, event)
	r.open = append(r.open, element{r.tag.raw, declared})
	r.goOn()
}

// around returns the spaces that are declared where a tag stands.
func (r *reader) around() *spaces {
	if len(r.open) == 0 {
		return outermost()
	}
	return r.open[len(r.open)-1].spaces
}
