package tree

import (
	"strconv"
	"strings"

	"gabarit/api"
	"gabarit/chars"
)

// printer writes the canonical text of a document.
type printer struct {
	text     strings.Builder
	prefixes map[string]string // of the spaces
	declared []string          // the spaces that are to be declared, in order
}

// Print returns the canonical text of a document.
func Print(n api.Node) (string, api.Errno) {
	if e := checkDocument(n); e != api.OK {
		return "", e
	}
	p := &printer{prefixes: map[string]string{"": "", "xml": "xml"}}
	for v := range visits(n) {
		p.meet(v.node.Name)
		for _, a := range v.node.Attrs {
			p.meet(a.Name)
		}
	}
	p.element(n, p.declared)
	return p.text.String(), api.OK
}

// meet gives the space of a name a prefix, if it has none yet.
func (p *printer) meet(n api.Name) {
	if _, ok := p.prefixes[n.Space]; ok {
		return
	}
	p.declared = append(p.declared, n.Space)
	p.prefixes[n.Space] = "n" + strconv.Itoa(len(p.declared))
}

// raw returns the raw name of a name.
func (p *printer) raw(n api.Name) string {
	if prefix := p.prefixes[n.Space]; prefix != "" {
		return prefix + ":" + n.Local
	}
	return n.Local
}

// element writes an element, which declares these spaces.
func (p *printer) element(n api.Node, declared []string) {
	p.text.WriteString("<" + p.raw(n.Name))
	for _, space := range declared {
		p.attribute("xmlns:"+p.prefixes[space], space)
	}
	for _, a := range n.Attrs {
		p.attribute(p.raw(a.Name), a.Value)
	}
	if len(n.Kids) == 0 {
		p.text.WriteString("/>")
		return
	}
	p.text.WriteString(">")
	for _, kid := range n.Kids {
		if kid.Kind == api.NdText {
			p.escaped(kid.Text, false)
		} else {
			p.element(kid, nil)
		}
	}
	p.text.WriteString("</" + p.raw(n.Name) + ">")
}

// attribute writes what stands in a tag as an attribute.
func (p *printer) attribute(raw, value string) {
	p.text.WriteString(" " + raw + `="`)
	p.escaped(value, true)
	p.text.WriteString(`"`)
}

// escaped writes a text with escapes.
func (p *printer) escaped(s string, attribute bool) {
	escaped, _ := chars.Escape(s, attribute)
	p.text.WriteString(escaped)
}
