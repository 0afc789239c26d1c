package tree

import (
	"cmp"
	"slices"

	"gabarit/api"
	"gabarit/names"
)

// edit changes the node at the end of a path, which is new memory.
type edit func(at *api.Node) api.Errno

// Insert returns n with x as the kid at the end of the path.
func Insert(n api.Node, path []int, x api.Node) (api.Node, api.Errno) {
	parent, i, e := split(path)
	return edited(n, cmp.Or(Check(x), e), parent, func(at *api.Node) api.Errno {
		if at.Kind == api.NdText || i < 0 || i > len(at.Kids) {
			return api.ErrNone
		}
		at.Kids = joined(slices.Insert(at.Kids, i, clone(x)))
		return api.OK
	})
}

// Delete returns n without the node at the end of the path.
func Delete(n api.Node, path []int) (api.Node, api.Errno) {
	parent, i, e := split(path)
	return edited(n, e, parent, func(at *api.Node) api.Errno {
		if i < 0 || i >= len(at.Kids) {
			return api.ErrNone
		}
		at.Kids = joined(slices.Delete(at.Kids, i, i+1))
		return api.OK
	})
}

// Rename returns n, in which the element at the end of the path has this name.
func Rename(n api.Node, path []int, name api.Name) (api.Node, api.Errno) {
	return edited(n, unless(fitsElement(name)), path, only(api.NdElement, func(at *api.Node) api.Errno {
		at.Name = name
		return api.OK
	}))
}

// SetText returns n, in which the text at the end of the path is this text.
func SetText(n api.Node, path []int, text string) (api.Node, api.Errno) {
	return edited(n, unless(text != "" && isText(text)), path, only(api.NdText, func(at *api.Node) api.Errno {
		at.Text = text
		return api.OK
	}))
}

// SetAttr returns n, in which the element at the end of the path has this attribute.
func SetAttr(n api.Node, path []int, a api.Attr) (api.Node, api.Errno) {
	return edited(n, unless(fitsAttr(a)), path, only(api.NdElement, func(at *api.Node) api.Errno {
		i, has := slices.BinarySearchFunc(at.Attrs, a.Name, byName)
		if has {
			at.Attrs[i] = a
		} else {
			at.Attrs = slices.Insert(at.Attrs, i, a)
		}
		return api.OK
	}))
}

// DropAttr returns n, in which the element at the end of the path does not have the attribute of this name, which it has.
func DropAttr(n api.Node, path []int, name api.Name) (api.Node, api.Errno) {
	return edited(n, unless(fitsAttrName(name)), path, only(api.NdElement, func(at *api.Node) api.Errno {
		i, has := slices.BinarySearchFunc(at.Attrs, name, byName)
		if !has {
			return api.ErrNone
		}
		at.Attrs = slices.Delete(at.Attrs, i, i+1)
		return api.OK
	}))
}

// edited returns n with an edit of the node at the end of the path; e is what is wrong with the arguments of the edit.
func edited(n api.Node, e api.Errno, path []int, change edit) (api.Node, api.Errno) {
	if e := cmp.Or(checkDocument(n), e); e != api.OK {
		return api.Node{}, e
	}
	n = clone(n)
	at, ok := find(&n, path)
	if !ok {
		return api.Node{}, api.ErrNone
	}
	if e := change(at); e != api.OK {
		return api.Node{}, e
	}
	if _, ok := measure(n); !ok {
		return api.Node{}, api.ErrLong
	}
	return n, api.OK
}

// only makes an edit one of nodes of that kind alone.
func only(kind int, change edit) edit {
	return func(at *api.Node) api.Errno {
		if at.Kind != kind {
			return api.ErrDown
		}
		return change(at)
	}
}

// unless is ErrArg, unless an argument is as it must be.
func unless(right bool) api.Errno {
	if right {
		return api.OK
	}
	return api.ErrArg
}

// split returns the path to the parent, and the last index; ErrArg if there is none.
func split(path []int) ([]int, int, api.Errno) {
	if len(path) == 0 {
		return nil, 0, api.ErrArg
	}
	last := len(path) - 1
	return path[:last], path[last], api.OK
}

// joined returns the kids with one text for texts that stand beside each other.
func joined(kids []api.Node) []api.Node {
	var l []api.Node
	for _, kid := range kids {
		last := len(l) - 1
		if last >= 0 && l[last].Kind == api.NdText && kid.Kind == api.NdText {
			l[last].Text += kid.Text
		} else {
			l = append(l, kid)
		}
	}
	return l
}

// byName compares an attribute with a name.
func byName(a api.Attr, name api.Name) int {
	switch {
	case names.Less(a.Name, name):
		return -1
	case names.Less(name, a.Name):
		return 1
	}
	return 0
}
