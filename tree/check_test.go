package tree_test

import (
	"math/rand/v2"
	"slices"
	"strings"
	"testing"

	"gabarit/api"
	"gabarit/tree"
)

// small are valid nodes that are as large as they may be, and large ones that are a little larger, valid or not.
func small() []api.Node {
	return []api.Node{
		wide(300), chain(40), el("a", wide(299)), el("a", chain(39)), el("a", chain(39), "t", chain(39)),
		{Kind: api.NdElement, Name: nm("a"), Attrs: attrs(299)},
		el("a", api.Node{Kind: api.NdElement, Name: nm("a"), Attrs: attrs(298)}),
		el("a", api.Node{Kind: api.NdElement, Name: nm("a"), Attrs: attrs(296)}, "t", el("b")),
		tx(strings.Repeat("t", 1<<20)), el("a", strings.Repeat("t", 1<<20)), el("a", at("x", strings.Repeat("t", 1<<20))),
	}
}

func large() []api.Node {
	bad := wide(301)
	bad.Name.Local = ""
	deepBad := chain(41)
	deepBad.Text = "t"
	l := []api.Node{
		wide(301), chain(41), bad, deepBad, el("a", wide(300)), el("a", chain(40)), wide(100000), chain(100000), el("a", el("b"), chain(40)),
		{Kind: api.NdElement, Name: nm("a"), Attrs: attrs(300)},
		{Kind: api.NdElement, Name: nm("a"), Attrs: make([]api.Attr, 1<<20)},
		{Kind: api.NdElement, Kids: make([]api.Node, 1<<20)},
		{Kids: make([]api.Node, 300)},
		{Kind: api.NdText, Text: "t", Attrs: attrs(300)},
		{Kind: api.NdText, Text: "t", Kids: []api.Node{chain(41)}},
		{Kind: api.NdText, Text: "t", Kids: make([]api.Node, 300)},
		{Kind: 7, Kids: []api.Node{chain(40)}},
		el("a", api.Node{Kind: api.NdElement, Name: nm("a"), Attrs: attrs(296)}, "t", el("b", "u")),
	}
	return append(l, selfish()...)
}

// notValid are small nodes that are not valid.
func notValid() []api.Node {
	l := []api.Node{
		{}, {Kind: 3, Name: nm("a")}, {Kind: -1, Text: "t"}, {Name: nm("a")},
		{Kind: api.NdText}, {Kind: api.NdText, Text: "t", Name: nm("a")}, {Kind: api.NdText, Text: "t", Name: api.Name{Space: "u"}},
		{Kind: api.NdText, Text: "t", Attrs: attrs(1)}, {Kind: api.NdText, Text: "t", Kids: []api.Node{tx("u")}}, {Kind: api.NdText, Text: "t", Attrs: attrs(299)},
		{Kind: api.NdElement, Name: nm("a"), Text: "t"},
		el("a", "t", "u"), el("a", el("b"), "t", "u", el("b")), el("a", el("b", el("c", "t", "u"))), el("a", ""), el("a", el("b"), ""), el("a", api.Node{}),
		el("a", at("y", ""), at("x", "")), el("a", at("x", ""), at("x", "")), el("a", at("x", "1"), at("x", "2")), el("a", at("u:x", ""), at("x", "")), el("a", at("v:a", ""), at("u:b", "")), el("a", at("x", ""), at("y", ""), at("x", "")),
		el("a", at("xmlns", "")), el("a", at("xmlns", "u")), el("a", el("b", at("xmlns", "u"))),
		// Only elements count for how deep a node is, even with texts around them or between them.
		{Kind: api.NdElement, Name: nm("a"), Kids: []api.Node{{Kind: api.NdText, Text: "t", Kids: []api.Node{chain(39)}}}},
		{Kind: 7, Kids: []api.Node{chain(39)}},
	}
	for _, n := range noNames() {
		l = append(l, api.Node{Kind: api.NdElement, Name: n}, el("a", api.Node{Kind: api.NdElement, Name: n}), el("a", api.Attr{Name: n}), el("a", "t", el("b", api.Attr{Name: n})))
	}
	for _, s := range noTexts {
		l = append(l, tx(s), el("a", s), el("a", at("x", s)), el("a", at("x", "1"), at("y", s)))
	}
	texts := tx("t")
	for range 99 {
		texts = api.Node{Kind: api.NdText, Text: "t", Kids: []api.Node{texts}}
	}
	return append(l, texts)
}

// valid are nodes that are valid and small.
func valid() []api.Node {
	w := strings.Repeat("w", 200)
	return append(small(),
		letterD(), el("a"), tx("t"), tx(" "), tx("\n"), tx("\r"), tx("<a>&"), tx("é\U0010ffff"), el("xmlns"), el("u:xmlns"), el("xmlns:a"), el("xml:a"), el("a", at("u:xmlns", ""), at("xmlns:xmlns", "")), el("a", at("xml", "")),
		el("a", at("Z", ""), at("a", ""), at("b", ""), at("é", ""), at(" :a", ""), at("u:A", ""), at("u:a", ""), at("v:A", "")),
		el("a", "t", el("b"), "t", el("b"), el("b"), "t"), el("a", el("b", "t"), "t"), el("a", "t", el("b", "t"), "t"),
		api.Node{Kind: api.NdElement, Name: api.Name{Space: w, Local: w}, Attrs: []api.Attr{{Name: api.Name{Space: w, Local: w}, Value: w + w}}},
		el("a", at("x", "\t\n\r <>&\"'")), api.Node{Kind: api.NdElement, Name: api.Name{Space: "a b\r\n<", Local: "é·"}},
	)
}

// P4.1
func TestCheck(t *testing.T) {
	for i, n := range valid() {
		if e := tree.Check(n); e != api.OK {
			t.Errorf("valid %d: %d", i, e)
		}
	}
	for i, n := range large() {
		if e := tree.Check(n); e != api.ErrLong {
			t.Errorf("large %d: %d", i, e)
		}
	}
	for i, n := range notValid() {
		if e := tree.Check(n); e != api.ErrArg {
			t.Errorf("not valid %d (%.300v): %d", i, n, e)
		}
	}
	checked := map[api.Errno]int{}
	randoms(t, 20000, func(r *rand.Rand) {
		n := randomDoc(r)
		if r.IntN(8) == 0 {
			n = el("a", wide(270+r.IntN(30)), n)
		}
		for range r.IntN(3) {
			n = spoiled(r, n)
		}
		want := wrong(n)
		checked[want]++
		if e := tree.Check(n); e != want {
			t.Errorf("Check(%.1000v): %d, want %d", n, e, want)
		}
	})
	for _, e := range []api.Errno{api.OK, api.ErrLong, api.ErrArg} {
		if checked[e] < 100 {
			t.Errorf("only %d nodes with %d", checked[e], e)
		}
	}
}

// P4.1
func TestSize(t *testing.T) {
	for _, c := range []struct {
		n    api.Node
		want int
	}{
		{letterD(), 5}, {el("a"), 1}, {tx("text"), 1}, {el("a", "t"), 2}, {el("a", at("x", ""), at("y", "")), 3}, {wide(300), 300}, {chain(40), 40},
		{el("a", at("x", ""), el("b", at("x", ""), el("c"), "t"), "u"), 7}, {small()[5], 300},
	} {
		if size, e := tree.Size(c.n); size != c.want || e != api.OK {
			t.Errorf("Size(%.300v): %d, %d, want %d", c.n, size, e, c.want)
		}
	}
	for _, n := range large() {
		if size, e := tree.Size(n); size != 0 || e != api.ErrLong {
			t.Errorf("Size of a large one: %d, %d", size, e)
		}
	}
	for _, n := range notValid() {
		if size, e := tree.Size(n); size != 0 || e != api.ErrArg {
			t.Errorf("Size(%.300v): %d, %d", n, size, e)
		}
	}
	randoms(t, 2000, func(r *rand.Rand) {
		n := randomDoc(r)
		if size, e := tree.Size(n); size != sizeOf(n) || e != api.OK {
			t.Errorf("Size(%.1000v): %d, %d, want %d", n, size, e, sizeOf(n))
		}
	})
}

// P4.1: each field matters.
func TestSame(t *testing.T) {
	d := func() api.Node { return el("u:a", at("x", "1"), at("v:y", "2"), "t", el("b", "u"), el("c")) }
	others := []func(n *api.Node){
		func(n *api.Node) { n.Kind = api.NdText },
		func(n *api.Node) { n.Kind = 0 },
		func(n *api.Node) { n.Name.Local = "A" },
		func(n *api.Node) { n.Name.Space = "" },
		func(n *api.Node) { n.Text = "t" },
		func(n *api.Node) { n.Attrs = n.Attrs[:1] },
		func(n *api.Node) { n.Attrs = nil },
		func(n *api.Node) { n.Attrs[0].Value = "" },
		func(n *api.Node) { n.Attrs[1].Name.Space = "w" },
		func(n *api.Node) { n.Attrs[1].Name.Local = "z" },
		func(n *api.Node) { slices.Reverse(n.Attrs) },
		func(n *api.Node) { n.Kids = n.Kids[:2] },
		func(n *api.Node) { n.Kids = nil },
		func(n *api.Node) { n.Kids = append(n.Kids, tx("v")) },
		func(n *api.Node) { n.Kids[0].Text = "T" },
		func(n *api.Node) { n.Kids[1].Kids[0].Text = "T" },
		func(n *api.Node) { n.Kids[1].Kids = nil },
		func(n *api.Node) { n.Kids[2].Kids = []api.Node{tx("u")} },
		func(n *api.Node) { n.Kids[2].Attrs = []api.Attr{at("x", "")} },
		func(n *api.Node) { slices.Reverse(n.Kids) },
	}
	for i, change := range others {
		n, m := d(), d()
		if !tree.Same(n, m) || !tree.Same(emptied(n), nils(m)) {
			t.Fatal("a node is not the same as itself")
		}
		change(&m)
		if tree.Same(n, m) || tree.Same(m, n) || !tree.Same(m, m) {
			t.Errorf("change %d is not seen", i)
		}
	}
	for _, n := range append(valid(), notValid()...) {
		if !tree.Same(n, n) || !tree.Same(emptied(n), nils(n)) {
			t.Errorf("Same(%.300v) with itself is false", n)
		}
	}
	for _, n := range large() {
		if tree.Same(n, n) || tree.Same(n, letterD()) || tree.Same(letterD(), n) {
			t.Errorf("Same of a large one is true")
		}
	}
	randoms(t, 5000, func(r *rand.Rand) {
		n := randomDoc(r)
		m := spoiled(r, n)
		if want := isSmall(m) && equal(n, m); tree.Same(n, m) != want || tree.Same(m, n) != want {
			t.Errorf("Same(%.1000v, %.1000v) is not %v", n, m, want)
		}
	})
}
