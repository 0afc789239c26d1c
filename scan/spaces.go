package scan

import (
	"slices"
	"strings"

	"gabarit/api"
	"gabarit/names"
)

// declarer is the raw name, or the prefix, of an attribute that declares a space.
const declarer = "xmlns"

// tag is what stands in a tag.
type tag struct {
	at         int // the place of its <
	raw        string
	attributes []attribute
}

// attribute is what stands in a tag as an attribute, with the place of its raw name.
type attribute struct {
	at         int
	raw, value string
}

// element is an element that has begun.
type element struct {
	raw string
	*spaces
}

// spaces are the spaces that an element declares, by their prefixes; what it does not declare is as in the element around.
type spaces struct {
	*spaces
	declared map[string]string
}

// of returns the space of a prefix.
func (s *spaces) of(prefix string) (string, bool) {
	for ; s != nil; s = s.spaces {
		if space, ok := s.declared[prefix]; ok {
			return space, true
		}
	}
	return "", false
}

// outermost are the spaces of prefixes that nothing declares.
func outermost() *spaces {
	return &spaces{declared: map[string]string{"": "", "xml": "xml"}}
}

// start returns the event of a start tag, and the spaces in its element; or an error and its place.
func (t tag) start(around *spaces) (api.Event, *spaces, api.Errno, int) {
	if at, twice := t.twice(); twice {
		return api.Event{}, nil, api.ErrAttr, at
	}
	declared, ok := t.declare()
	inside := &spaces{around, declared}
	name, known := inside.name(t.raw)
	attrs, allKnown := t.attrs(inside)
	if !ok || !known || !allKnown {
		return api.Event{}, nil, api.ErrPrefix, t.at
	}
	slices.SortFunc(attrs, byName)
	for i := 1; i < len(attrs); i++ {
		if attrs[i].Name == attrs[i-1].Name {
			return api.Event{}, nil, api.ErrAttr, t.at
		}
	}
	return api.Event{Kind: api.EvStart, Name: name, Attrs: attrs, At: t.at}, inside, api.OK, 0
}

// twice returns the place of the first attribute with the raw name of one before it.
func (t tag) twice() (int, bool) {
	seen := map[string]bool{}
	for _, a := range t.attributes {
		if seen[a.raw] {
			return a.at, true
		}
		seen[a.raw] = true
	}
	return 0, false
}

// declare returns the spaces that a tag declares, and whether they may be declared.
func (t tag) declare() (map[string]string, bool) {
	declared := map[string]string{}
	for _, a := range t.attributes {
		prefix, ok := a.declares()
		if !ok {
			continue
		}
		if prefix == "xml" || prefix == declarer || prefix != "" && a.value == "" {
			return nil, false
		}
		declared[prefix] = a.value
	}
	return declared, true
}

// declares returns the prefix whose space an attribute declares, if it does that.
func (a attribute) declares() (string, bool) {
	prefix, local := split(a.raw)
	if prefix == declarer {
		return local, true
	}
	return "", a.raw == declarer
}

// attrs returns the attributes of the element, and whether all their prefixes have a space.
func (t tag) attrs(inside *spaces) ([]api.Attr, bool) {
	var attrs []api.Attr
	for _, a := range t.attributes {
		if _, ok := a.declares(); ok {
			continue
		}
		name, known := api.Name{Local: a.raw}, true
		if prefix, _ := split(a.raw); prefix != "" {
			name, known = inside.name(a.raw)
		}
		if !known {
			return nil, false
		}
		attrs = append(attrs, api.Attr{Name: name, Value: a.value})
	}
	return attrs, true
}

// name returns the name of a raw name, and whether its prefix has a space.
func (s *spaces) name(raw string) (api.Name, bool) {
	prefix, local := split(raw)
	space, ok := s.of(prefix)
	return api.Name{Space: space, Local: local}, ok
}

// split returns the prefix of a raw name, which may be empty, and its local part.
func split(raw string) (string, string) {
	if prefix, local, ok := strings.Cut(raw, ":"); ok {
		return prefix, local
	}
	return "", raw
}

// byName compares attributes by their names.
func byName(a, b api.Attr) int {
	switch {
	case names.Less(a.Name, b.Name):
		return -1
	case names.Less(b.Name, a.Name):
		return 1
	}
	return 0
}

// tooLong reports whether a name of a start is too long.
func tooLong(start api.Event) bool {
	long := func(n api.Name) bool { return len(n.Local) > api.MaxWord || len(n.Space) > api.MaxWord }
	return long(start.Name) || slices.ContainsFunc(start.Attrs, func(a api.Attr) bool { return long(a.Name) })
}
