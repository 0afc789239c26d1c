package tree

import (
	"slices"

	"gabarit/api"
)

// builder makes a document of events.
type builder struct {
	open []api.Node // the elements that have begun and not ended, the root first
	size int        // elements, attributes and texts so far
	root api.Node
	over bool // whether the root has ended
}

// Build returns the document of events; or the index of the first one that is wrong.
func Build(l []api.Event) (api.Node, int, api.Errno) {
	b := &builder{}
	for i, event := range l {
		if e := b.add(event); e != api.OK {
			return api.Node{}, i, e
		}
	}
	if !b.over {
		return api.Node{}, len(l), api.ErrForm
	}
	return b.root, 0, api.OK
}

// add adds what an event says.
func (b *builder) add(event api.Event) api.Errno {
	if b.over || !fitsEvent(event) || !b.mayCome(event.Kind) {
		return api.ErrForm
	}
	switch event.Kind {
	case api.EvStart:
		b.open = append(b.open, api.Node{Kind: api.NdElement, Name: event.Name, Attrs: slices.Clone(event.Attrs)})
		b.size += 1 + len(event.Attrs)
	case api.EvText:
		b.put(api.Node{Kind: api.NdText, Text: event.Text})
		b.size++
	case api.EvEnd:
		b.end()
	}
	if b.size > api.MaxNodes || len(b.open) > api.MaxDeep {
		return api.ErrLong
	}
	return api.OK
}

// fitsEvent reports whether the fields of an event are as its kind wants them.
func fitsEvent(e api.Event) bool {
	switch e.Kind {
	case api.EvStart:
		return fits(api.Node{Kind: api.NdElement, Name: e.Name, Attrs: e.Attrs, Text: e.Text})
	case api.EvText:
		return fits(api.Node{Kind: api.NdText, Name: e.Name, Attrs: e.Attrs, Text: e.Text})
	case api.EvEnd:
		return e.Name == (api.Name{}) && len(e.Attrs) == 0 && e.Text == ""
	}
	return false
}

// mayCome reports whether an event of this kind may come next, before the root has ended.
func (b *builder) mayCome(kind int) bool {
	if len(b.open) == 0 {
		return kind == api.EvStart
	}
	kids := b.innermost().Kids
	return kind != api.EvText || len(kids) == 0 || kids[len(kids)-1].Kind != api.NdText
}

// innermost returns the element that has begun last of those that have not ended.
func (b *builder) innermost() *api.Node { return &b.open[len(b.open)-1] }

// put makes n the next kid of the innermost element.
func (b *builder) put(n api.Node) {
	at := b.innermost()
	at.Kids = append(at.Kids, n)
}

// end ends the innermost element.
func (b *builder) end() {
	n := *b.innermost()
	b.open = b.open[:len(b.open)-1]
	if len(b.open) == 0 {
		b.root, b.over = n, true
		return
	}
	b.put(n)
}
