package tree_test

import (
	"math/rand/v2"
	"slices"
	"strings"
	"testing"

	"gabarit/api"
	"gabarit/tree"
)

// notDocument is the error that all edits return first.
func notDocument(n api.Node) api.Errno {
	if e := wrong(n); e != api.OK {
		return e
	}
	if n.Kind != api.NdElement {
		return api.ErrArg
	}
	return api.OK
}

// P4.5
func TestInsert(t *testing.T) {
	d := letterD()
	nested := el("a", "s", el("b", "t", el("c"), "u"))
	full := small()[5]
	for _, c := range []struct {
		n    api.Node
		path []int
		x    api.Node
		want api.Node
		e    api.Errno
	}{
		{d, path(1), tx("v"), doc(t, `<a x="1">tv<b/>u</a>`), api.OK},
		{d, path(3), tx("v"), doc(t, `<a x="1">t<b/>uv</a>`), api.OK},
		{d, path(0, 0), tx("v"), api.Node{}, api.ErrNone},
		{d, path(0), tx("v"), doc(t, `<a x="1">vt<b/>u</a>`), api.OK},
		{d, path(2), tx("v"), doc(t, `<a x="1">t<b/>vu</a>`), api.OK},
		{d, path(1, 0), tx("v"), doc(t, `<a x="1">t<b>v</b>u</a>`), api.OK},
		{d, path(1), el("c"), doc(t, `<a x="1">t<c/><b/>u</a>`), api.OK},
		{d, path(2), el("c"), doc(t, `<a x="1">t<b/><c/>u</a>`), api.OK},
		{d, path(0), el("c"), doc(t, `<a x="1"><c/>t<b/>u</a>`), api.OK},
		{d, path(3), el("c", at("x", ""), "v", el("d")), doc(t, `<a x="1">t<b/>u<c x="">v<d/></c></a>`), api.OK},
		{d, path(1, 0), d, doc(t, `<a x="1">t<b><a x="1">t<b/>u</a></b>u</a>`), api.OK},
		{nested, path(1, 3), tx("v"), el("a", "s", el("b", "t", el("c"), "uv")), api.OK},
		{nested, path(2), tx("v"), el("a", "s", el("b", "t", el("c"), "u"), "v"), api.OK},
		{nested, path(1, 1, 0), el("d"), el("a", "s", el("b", "t", el("c", el("d")), "u")), api.OK},
		{el("a"), path(0), tx("v"), el("a", "v"), api.OK},
		{d, path(4), tx("v"), api.Node{}, api.ErrNone},
		{d, path(-1), tx("v"), api.Node{}, api.ErrNone},
		{d, path(1<<62 + 1), tx("v"), api.Node{}, api.ErrNone},
		{d, path(-1 << 63), tx("v"), api.Node{}, api.ErrNone},
		{d, path(1, 1), tx("v"), api.Node{}, api.ErrNone},
		{d, path(3, 0), tx("v"), api.Node{}, api.ErrNone},
		{d, path(2, 0), el("c"), api.Node{}, api.ErrNone},
		{d, path(-1, 0), el("c"), api.Node{}, api.ErrNone},
		{d, path(), el("c"), api.Node{}, api.ErrArg},
		{d, nil, tx("v"), api.Node{}, api.ErrArg},
		{d, path(0, 0), el(""), api.Node{}, api.ErrArg},
		{d, path(), tx(""), api.Node{}, api.ErrArg},
		{d, path(0), tx(""), api.Node{}, api.ErrArg},
		{d, path(0), api.Node{}, api.Node{}, api.ErrArg},
		{d, path(0), el("a", "t", "u"), api.Node{}, api.ErrArg},
		{d, path(), chain(41), api.Node{}, api.ErrLong},
		{d, path(0, 0), wide(301), api.Node{}, api.ErrLong},
		{d, path(0), selfish()[0], api.Node{}, api.ErrLong},
		{el(""), path(), wide(301), api.Node{}, api.ErrArg},
		{wide(301), path(), el(""), api.Node{}, api.ErrLong},
		{wide(299), path(7), el("k"), wide(300), api.OK},
		{wide(300), path(7), el("k"), api.Node{}, api.ErrLong},
		{wide(300), path(7), tx("t"), api.Node{}, api.ErrLong},
		{wide(300), path(300), tx("t"), api.Node{}, api.ErrNone},
		{wide(300), path(), tx("t"), api.Node{}, api.ErrArg},
		{wide(298), path(0), el("k", at("x", "")), api.Node{Kind: api.NdElement, Name: nm("w"), Kids: append([]api.Node{el("k", at("x", ""))}, wide(298).Kids...)}, api.OK},
		{wide(299), path(0), el("k", at("x", "")), api.Node{}, api.ErrLong},
		{full, path(0), tx("t"), api.Node{}, api.ErrLong},
		{el("a", wide(298), "t"), path(2), tx("u"), el("a", wide(298), "tu"), api.OK},
		{el("a", wide(298), "t"), path(1), tx("u"), el("a", wide(298), "ut"), api.OK},
		{el("a", wide(298), "t"), path(0), tx("u"), api.Node{}, api.ErrLong},
		{chain(39), make([]int, 39), el("c"), chain(40), api.OK},
		{chain(40), make([]int, 40), el("c"), api.Node{}, api.ErrLong},
		{chain(40), make([]int, 39), el("d"), treeOf(slices.Concat(repeated(39, start("c")), []api.Event{start("d"), end(), start("c"), end()}, repeated(39, end()))), api.OK},
		{chain(20), make([]int, 20), chain(20), chain(40), api.OK},
		{chain(20), make([]int, 20), chain(21), api.Node{}, api.ErrLong},
	} {
		n, e := tree.Insert(c.n, c.path, c.x)
		checkNode(t, n, e, c.want, c.e, c.n, c.path, c.x)
	}
	n, e := tree.Insert(chain(40), make([]int, 40), tx("t"))
	if e != api.OK || sizeOf(n) != 41 || deepOf(n) != 40 {
		t.Errorf("a text in the innermost element: %d", e)
	}
}

// wantInsert, wantDelete and wantSet tell straight from the definitions what an edit returns: it changes the events of the document.
func wantInsert(n api.Node, path []int, x api.Node) (api.Node, api.Errno) {
	if e := notDocument(n); e != api.OK {
		return api.Node{}, e
	}
	if e := wrong(x); e != api.OK {
		return api.Node{}, e
	}
	if len(path) == 0 {
		return api.Node{}, api.ErrArg
	}
	l := eventsOf(n)
	from, _, _, ok := place(l, path)
	if !ok {
		return api.Node{}, api.ErrNone
	}
	return madeOf(slices.Concat(l[:from], eventsOf(x), l[from:]))
}

func wantDelete(n api.Node, path []int) (api.Node, api.Errno) {
	if e := notDocument(n); e != api.OK {
		return api.Node{}, e
	}
	if len(path) == 0 {
		return api.Node{}, api.ErrArg
	}
	l := eventsOf(n)
	from, to, there, ok := place(l, path)
	if !ok || !there {
		return api.Node{}, api.ErrNone
	}
	return madeOf(slices.Concat(l[:from], l[to:]))
}

func wantSet(n api.Node, right bool, path []int, kind int, set func(e *api.Event) api.Errno) (api.Node, api.Errno) {
	if e := notDocument(n); e != api.OK {
		return api.Node{}, e
	}
	if !right {
		return api.Node{}, api.ErrArg
	}
	l := eventsOf(n)
	from, _, there, ok := place(l, path)
	if !ok || !there {
		return api.Node{}, api.ErrNone
	}
	if l[from].Kind != kind {
		return api.Node{}, api.ErrDown
	}
	if e := set(&l[from]); e != api.OK {
		return api.Node{}, e
	}
	return madeOf(l)
}

// madeOf returns the document with these events, in which texts are to be joined.
func madeOf(l []api.Event) (api.Node, api.Errno) {
	n := treeOf(joinTexts(l))
	if !isSmall(n) {
		return api.Node{}, api.ErrLong
	}
	return n, api.OK
}

// largerDoc is a document, sometimes one that is nearly too large.
func largerDoc(r *rand.Rand) api.Node {
	n := randomDoc(r)
	if r.IntN(8) == 0 {
		size := 300 - sizeOf(n) - 1
		n = el("a", wide(max(1, size-r.IntN(3))), n)
	}
	if r.IntN(20) == 0 {
		n = spoiled(r, n)
	}
	return n
}

// P4.5
func TestInsertOfRandoms(t *testing.T) {
	seen := map[api.Errno]int{}
	randoms(t, 10000, func(r *rand.Rand) {
		n, x := largerDoc(r), one(r, tx(randomText(r)), randomElement(r, r.IntN(2)))
		if r.IntN(20) == 0 {
			x = spoiled(r, x)
		}
		path := randomPath(r, n)
		if last := len(path) - 1; r.IntN(3) == 0 && last >= 0 && path[last] < 1<<30 {
			path[last]++
		}
		want, wantE := wantInsert(n, path, x)
		seen[wantE]++
		got, e := tree.Insert(n, path, x)
		checkNode(t, got, e, want, wantE, n, path, x)
	})
	checkSeen(t, seen, api.OK, api.ErrArg, api.ErrNone, api.ErrLong)
}

// checkSeen looks whether each of these errors was wanted often enough.
func checkSeen(t *testing.T, seen map[api.Errno]int, l ...api.Errno) {
	t.Helper()
	for _, e := range l {
		if seen[e] < 50 {
			t.Errorf("only %d times %d", seen[e], e)
		}
	}
}

// P4.6
func TestDelete(t *testing.T) {
	d := letterD()
	nested := el("a", el("b", "t", el("c", "u"), "v", el("d")), "w")
	for _, c := range []struct {
		n    api.Node
		path []int
		want api.Node
		e    api.Errno
	}{
		{d, path(1), doc(t, `<a x="1">tu</a>`), api.OK},
		{d, path(0), doc(t, `<a x="1"><b/>u</a>`), api.OK},
		{d, path(2), doc(t, `<a x="1">t<b/></a>`), api.OK},
		{nested, path(0), el("a", "w"), api.OK},
		{nested, path(1), el("a", el("b", "t", el("c", "u"), "v", el("d"))), api.OK},
		{nested, path(0, 1), el("a", el("b", "tv", el("d")), "w"), api.OK},
		{nested, path(0, 1, 0), el("a", el("b", "t", el("c"), "v", el("d")), "w"), api.OK},
		{nested, path(0, 2), el("a", el("b", "t", el("c", "u"), el("d")), "w"), api.OK},
		{nested, path(0, 3), el("a", el("b", "t", el("c", "u"), "v"), "w"), api.OK},
		{el("a", el("b"), "t", el("c"), "u"), path(1), el("a", el("b"), el("c"), "u"), api.OK},
		{el("a", el("b")), path(0), el("a"), api.OK},
		{wide(300), path(299 - 1), wide(299), api.OK},
		{chain(40), path(0), el("c"), api.OK},
		{d, path(), api.Node{}, api.ErrArg},
		{d, nil, api.Node{}, api.ErrArg},
		{d, path(3), api.Node{}, api.ErrNone},
		{d, path(-1), api.Node{}, api.ErrNone},
		{d, path(1 << 62), api.Node{}, api.ErrNone},
		{d, path(-1 << 63), api.Node{}, api.ErrNone},
		{d, path(0, 0), api.Node{}, api.ErrNone},
		{d, path(1, 0), api.Node{}, api.ErrNone},
		{d, path(3, 0), api.Node{}, api.ErrNone},
		{nested, path(0, 4), api.Node{}, api.ErrNone},
	} {
		n, e := tree.Delete(c.n, c.path)
		checkNode(t, n, e, c.want, c.e, c.n, c.path)
	}
	seen := map[api.Errno]int{}
	randoms(t, 10000, func(r *rand.Rand) {
		n := largerDoc(r)
		path := randomPath(r, n)
		want, wantE := wantDelete(n, path)
		seen[wantE]++
		got, e := tree.Delete(n, path)
		checkNode(t, got, e, want, wantE, n, path)
	})
	checkSeen(t, seen, api.OK, api.ErrArg, api.ErrNone)
}

// P4.7
func TestRename(t *testing.T) {
	d := letterD()
	for _, c := range []struct {
		n    api.Node
		path []int
		name api.Name
		want api.Node
		e    api.Errno
	}{
		{d, path(), nm("u:c"), doc(t, `<p:c xmlns:p="u" x="1">t<b/>u</p:c>`), api.OK},
		{d, path(1), nm("c"), doc(t, `<a x="1">t<c/>u</a>`), api.OK},
		{d, path(1), nm("xmlns"), doc(t, `<a x="1">t<xmlns/>u</a>`), api.OK},
		{d, path(1), nm("b"), d, api.OK},
		{el("a", el("b", el("c", "t"), "u")), path(0, 0), nm("d"), el("a", el("b", el("d", "t"), "u")), api.OK},
		{d, path(0), nm("c"), api.Node{}, api.ErrDown},
		{d, path(3), nm("c"), api.Node{}, api.ErrNone},
		{d, path(0, 0), nm("c"), api.Node{}, api.ErrNone},
		{d, path(-1), nm("c"), api.Node{}, api.ErrNone},
		{d, path(0), nm(""), api.Node{}, api.ErrArg},
		{d, path(3), nm(":"), api.Node{}, api.ErrArg},
		{wide(300), path(298), nm("c"), api.Node{Kind: api.NdElement, Name: nm("w"), Kids: append(wide(299).Kids, el("c"))}, api.OK},
	} {
		n, e := tree.Rename(c.n, c.path, c.name)
		checkNode(t, n, e, c.want, c.e, c.n, c.path, c.name)
	}
	for _, name := range noNames() {
		for _, path := range [][]int{nil, {0}, {1}, {7}} {
			n, e := tree.Rename(d, path, name)
			checkNode(t, n, e, api.Node{}, api.ErrArg, path, name)
		}
	}
	seen := map[api.Errno]int{}
	randoms(t, 5000, func(r *rand.Rand) {
		n := largerDoc(r)
		path, name := randomPath(r, n), one(r, randomName(r), randomName(r), one(r, noNames()...))
		want, wantE := wantSet(n, nameFits(name, false), path, api.EvStart, func(e *api.Event) api.Errno {
			e.Name = name
			return api.OK
		})
		seen[wantE]++
		got, e := tree.Rename(n, path, name)
		checkNode(t, got, e, want, wantE, n, path, name)
	})
	checkSeen(t, seen, api.OK, api.ErrArg, api.ErrNone, api.ErrDown)
}

// P4.7
func TestSetText(t *testing.T) {
	d := letterD()
	for _, c := range []struct {
		n    api.Node
		path []int
		text string
		want api.Node
		e    api.Errno
	}{
		{d, path(0), "v", doc(t, `<a x="1">v<b/>u</a>`), api.OK},
		{d, path(2), " \r", doc(t, `<a x="1">t<b/> &#13;</a>`), api.OK},
		{d, path(2), "u", d, api.OK},
		{el("a", el("b", "t", el("c", "u"))), path(0, 1, 0), "v", el("a", el("b", "t", el("c", "v"))), api.OK},
		{d, path(0), strings.Repeat("t", 100000), el("a", at("x", "1"), strings.Repeat("t", 100000), el("b"), "u"), api.OK},
		{d, path(1), "v", api.Node{}, api.ErrDown},
		{d, path(), "v", api.Node{}, api.ErrDown},
		{d, path(3), "v", api.Node{}, api.ErrNone},
		{d, path(1, 0), "v", api.Node{}, api.ErrNone},
		{d, path(-1), "v", api.Node{}, api.ErrNone},
		{d, path(0), "", api.Node{}, api.ErrArg},
		{d, path(1), "", api.Node{}, api.ErrArg},
		{d, path(3), "", api.Node{}, api.ErrArg},
	} {
		n, e := tree.SetText(c.n, c.path, c.text)
		checkNode(t, n, e, c.want, c.e, c.n, c.path, c.text)
	}
	for _, s := range noTexts {
		for _, path := range [][]int{nil, {0}, {1}, {7}} {
			n, e := tree.SetText(d, path, s)
			checkNode(t, n, e, api.Node{}, api.ErrArg, path, s)
		}
	}
	seen := map[api.Errno]int{}
	randoms(t, 5000, func(r *rand.Rand) {
		n := largerDoc(r)
		path, s := randomPath(r, n), one(r, randomText(r), randomText(r), "", one(r, noTexts...))
		want, wantE := wantSet(n, s != "" && isText(s), path, api.EvText, func(e *api.Event) api.Errno {
			e.Text = s
			return api.OK
		})
		seen[wantE]++
		got, e := tree.SetText(n, path, s)
		checkNode(t, got, e, want, wantE, n, path, s)
	})
	checkSeen(t, seen, api.OK, api.ErrArg, api.ErrNone, api.ErrDown)
}

// P4.7
func TestSetAttr(t *testing.T) {
	d := letterD()
	some := el("a", at("b", "1"), at("d", "2"), at("u:a", "3"), "t")
	full := small()[5]
	for _, c := range []struct {
		n    api.Node
		path []int
		a    api.Attr
		want api.Node
		e    api.Errno
	}{
		{d, path(), at("y", "2"), doc(t, `<a x="1" y="2">t<b/>u</a>`), api.OK},
		{d, path(), at("x", "2"), doc(t, `<a x="2">t<b/>u</a>`), api.OK},
		{d, path(), at("x", "1"), d, api.OK},
		{d, path(), at("x", ""), doc(t, `<a x="">t<b/>u</a>`), api.OK},
		{d, path(1), at("u:x", "<"), doc(t, `<a x="1">t<b xmlns:p="u" p:x="&lt;"/>u</a>`), api.OK},
		{some, nil, at("a", "4"), el("a", at("a", "4"), at("b", "1"), at("d", "2"), at("u:a", "3"), "t"), api.OK},
		{some, nil, at("c", "4"), el("a", at("b", "1"), at("c", "4"), at("d", "2"), at("u:a", "3"), "t"), api.OK},
		{some, nil, at("z", "4"), el("a", at("b", "1"), at("d", "2"), at("z", "4"), at("u:a", "3"), "t"), api.OK},
		{some, nil, at("u:b", "4"), el("a", at("b", "1"), at("d", "2"), at("u:a", "3"), at("u:b", "4"), "t"), api.OK},
		{some, nil, at("d", "4"), el("a", at("b", "1"), at("d", "4"), at("u:a", "3"), "t"), api.OK},
		{some, nil, at("u:a", "4"), el("a", at("b", "1"), at("d", "2"), at("u:a", "4"), "t"), api.OK},
		{some, nil, at("u:xmlns", ""), el("a", at("b", "1"), at("d", "2"), at("u:a", "3"), at("u:xmlns", ""), "t"), api.OK},
		{el("a", el("b", at("x", ""))), path(0), at("w", ""), el("a", el("b", at("w", ""), at("x", ""))), api.OK},
		{d, path(0), at("y", "2"), api.Node{}, api.ErrDown},
		{d, path(3), at("y", "2"), api.Node{}, api.ErrNone},
		{d, path(0, 0), at("y", "2"), api.Node{}, api.ErrNone},
		{d, path(0), at("xmlns", "u"), api.Node{}, api.ErrArg},
		{d, path(3), at("xmlns", ""), api.Node{}, api.ErrArg},
		{d, path(), at("y", "\x00"), api.Node{}, api.ErrArg},
		{d, path(), at("x", "\xff"), api.Node{}, api.ErrArg},
		{wide(299), path(0), at("x", ""), api.Node{Kind: api.NdElement, Name: nm("w"), Kids: append([]api.Node{el("k", at("x", ""))}, wide(298).Kids...)}, api.OK},
		{wide(300), path(0), at("x", ""), api.Node{}, api.ErrLong},
		{wide(300), path(299), at("x", ""), api.Node{}, api.ErrNone},
		{wide(300), path(), at("xmlns", ""), api.Node{}, api.ErrArg},
		{full, path(), at("y", ""), api.Node{}, api.ErrLong},
		{full, path(), at("x1298", ""), full, api.OK},
	} {
		n, e := tree.SetAttr(c.n, c.path, c.a)
		checkNode(t, n, e, c.want, c.e, c.n, c.path, c.a)
	}
	bad := []api.Attr{at("xmlns", ""), at("xmlns", "u")}
	for _, name := range noNames() {
		bad = append(bad, api.Attr{Name: name})
	}
	for _, s := range noTexts {
		bad = append(bad, at("x", s), at("y", s))
	}
	for _, a := range bad {
		for _, path := range [][]int{nil, {0}, {1}, {7}} {
			n, e := tree.SetAttr(d, path, a)
			checkNode(t, n, e, api.Node{}, api.ErrArg, path, a)
		}
	}
}

// P4.7
func TestSetAttrOfRandoms(t *testing.T) {
	seen := map[api.Errno]int{}
	randoms(t, 8000, func(r *rand.Rand) {
		n := largerDoc(r)
		path, a := randomPath(r, n), randomAttr(r)
		switch r.IntN(8) {
		case 0:
			a.Name = one(r, noNames()...)
		case 1:
			a = at("xmlns", "")
		case 2:
			a.Value = one(r, noTexts...)
		}
		want, wantE := wantSet(n, nameFits(a.Name, true) && isText(a.Value), path, api.EvStart, func(e *api.Event) api.Errno {
			e.Attrs = slices.DeleteFunc(e.Attrs, func(b api.Attr) bool { return b.Name == a.Name })
			e.Attrs = append(e.Attrs, a)
			slices.SortFunc(e.Attrs, func(a, b api.Attr) int { return before(a.Name, b.Name) })
			return api.OK
		})
		seen[wantE]++
		got, e := tree.SetAttr(n, path, a)
		checkNode(t, got, e, want, wantE, n, path, a)
	})
	checkSeen(t, seen, api.OK, api.ErrArg, api.ErrNone, api.ErrDown, api.ErrLong)
}

// P4.7
func TestDropAttr(t *testing.T) {
	d := letterD()
	some := el("a", at("b", "1"), at("d", "2"), at("u:a", "3"), el("c", at("b", "1")))
	for _, c := range []struct {
		n    api.Node
		path []int
		name api.Name
		want api.Node
		e    api.Errno
	}{
		{d, path(), nm("x"), doc(t, `<a>t<b/>u</a>`), api.OK},
		{some, path(), nm("b"), el("a", at("d", "2"), at("u:a", "3"), el("c", at("b", "1"))), api.OK},
		{some, path(), nm("d"), el("a", at("b", "1"), at("u:a", "3"), el("c", at("b", "1"))), api.OK},
		{some, path(), nm("u:a"), el("a", at("b", "1"), at("d", "2"), el("c", at("b", "1"))), api.OK},
		{some, path(0), nm("b"), el("a", at("b", "1"), at("d", "2"), at("u:a", "3"), el("c")), api.OK},
		{some, path(), nm("a"), api.Node{}, api.ErrNone},
		{some, path(), nm("u:b"), api.Node{}, api.ErrNone},
		{some, path(0), nm("d"), api.Node{}, api.ErrNone},
		{d, path(1), nm("x"), api.Node{}, api.ErrNone},
		{d, path(0), nm("x"), api.Node{}, api.ErrDown},
		{d, path(3), nm("x"), api.Node{}, api.ErrNone},
		{d, path(-1), nm("x"), api.Node{}, api.ErrNone},
		{d, path(0, 0), nm("x"), api.Node{}, api.ErrNone},
		{d, path(), nm("xmlns"), api.Node{}, api.ErrArg},
		{d, path(0), nm("xmlns"), api.Node{}, api.ErrArg},
		{d, path(3), nm("xmlns"), api.Node{}, api.ErrArg},
		{d, path(), nm("u:xmlns"), api.Node{}, api.ErrNone},
		{el("a", at("u:xmlns", "")), path(), nm("u:xmlns"), el("a"), api.OK},
		{small()[5], path(), nm("x1298"), api.Node{Kind: api.NdElement, Name: nm("a"), Attrs: attrs(298)}, api.OK},
	} {
		n, e := tree.DropAttr(c.n, c.path, c.name)
		checkNode(t, n, e, c.want, c.e, c.n, c.path, c.name)
	}
	for _, name := range noNames() {
		for _, path := range [][]int{nil, {0}, {1}, {7}} {
			n, e := tree.DropAttr(d, path, name)
			checkNode(t, n, e, api.Node{}, api.ErrArg, path, name)
		}
	}
	seen := map[api.Errno]int{}
	randoms(t, 8000, func(r *rand.Rand) {
		n := largerDoc(r)
		path, name := randomPath(r, n), one(r, randomAttr(r).Name, one(r, noNames()...), nm("xmlns"))
		if at, e := tree.At(n, path); e == api.OK && len(at.Attrs) > 0 && r.IntN(2) == 0 {
			name = one(r, at.Attrs...).Name
		}
		want, wantE := wantSet(n, nameFits(name, true), path, api.EvStart, func(e *api.Event) api.Errno {
			i := slices.IndexFunc(e.Attrs, func(a api.Attr) bool { return a.Name == name })
			if i < 0 {
				return api.ErrNone
			}
			e.Attrs = slices.Delete(e.Attrs, i, i+1)
			return api.OK
		})
		seen[wantE]++
		got, e := tree.DropAttr(n, path, name)
		checkNode(t, got, e, want, wantE, n, path, name)
	})
	checkSeen(t, seen, api.OK, api.ErrArg, api.ErrNone, api.ErrDown)
}
