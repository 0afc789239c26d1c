package tree

import (
	"iter"
	"slices"

	"gabarit/api"
	"gabarit/chars"
	"gabarit/names"
)

// visit is a node in another one, with the path to it, which stands only until the next visit; deep is how many elements are in each other down to it.
type visit struct {
	node api.Node
	path []int
	deep int
}

// visits produces the nodes in n, itself first, in document order.
func visits(n api.Node) iter.Seq[visit] {
	return func(yield func(visit) bool) {
		var path []int
		var enter func(n api.Node, deep int) bool
		enter = func(n api.Node, deep int) bool {
			if n.Kind != api.NdText {
				deep++
			}
			if !yield(visit{n, path, deep}) {
				return false
			}
			for i, kid := range n.Kids {
				path = append(path, i)
				if !enter(kid, deep) {
					return false
				}
				path = path[:len(path)-1]
			}
			return true
		}
		enter(n, 0)
	}
}

// measure returns the size of n, if it is small. It stops at the first node too many, because n may even contain itself.
func measure(n api.Node) (int, bool) {
	size := 0
	for v := range visits(n) {
		size += 1 + len(v.node.Attrs)
		if size > api.MaxNodes || v.deep > api.MaxDeep {
			return 0, false
		}
	}
	return size, true
}

// fits reports whether the fields of n are as its kind wants them, whatever its kids are.
func fits(n api.Node) bool {
	switch n.Kind {
	case api.NdElement:
		return fitsElement(n.Name) && fitAll(n.Attrs) && n.Text == ""
	case api.NdText:
		return n.Text != "" && isText(n.Text) && n.Name == (api.Name{}) && len(n.Attrs) == 0 && len(n.Kids) == 0
	}
	return false
}

// fitAll reports whether these are the attributes of an element.
func fitAll(attrs []api.Attr) bool {
	for i, a := range attrs {
		if !fitsAttr(a) || i > 0 && !names.Less(attrs[i-1].Name, a.Name) {
			return false
		}
	}
	return true
}

// fitsElement reports whether an element may have this name.
func fitsElement(n api.Name) bool {
	return chars.Local(n.Local) && isText(n.Space) && len(n.Space) <= api.MaxWord
}

// fitsAttrName reports whether an attribute may have this name. In the text of a document, xmlns would declare a space.
func fitsAttrName(n api.Name) bool {
	return fitsElement(n) && n != (api.Name{Local: "xmlns"})
}

// fitsAttr reports whether an element may have this attribute.
func fitsAttr(a api.Attr) bool { return fitsAttrName(a.Name) && isText(a.Value) }

// isText reports whether s is a text.
func isText(s string) bool {
	_, _, e := chars.Decode(s)
	return e == api.OK
}

// textsTouch reports whether two texts stand beside each other.
func textsTouch(kids []api.Node) bool {
	for i := 1; i < len(kids); i++ {
		if kids[i-1].Kind == api.NdText && kids[i].Kind == api.NdText {
			return true
		}
	}
	return false
}

// same reports whether a and b, which are small, have the same fields.
func same(a, b api.Node) bool {
	return a.Kind == b.Kind && a.Name == b.Name && a.Text == b.Text && slices.Equal(a.Attrs, b.Attrs) && slices.EqualFunc(a.Kids, b.Kids, same)
}
