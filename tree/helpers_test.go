package tree_test

import (
	"cmp"
	"math/rand/v2"
	"reflect"
	"slices"
	"strconv"
	"strings"
	"testing"

	"gabarit/api"
	"gabarit/chars"
	"gabarit/tree"
)

// nm is the name of what stands as space:local, or without a space.
func nm(s string) api.Name {
	if space, local, ok := strings.Cut(s, ":"); ok {
		return api.Name{Space: space, Local: local}
	}
	return api.Name{Local: s}
}

// at is an attribute, el an element of attributes, texts (strings) and nodes, tx a text.
func at(name, value string) api.Attr { return api.Attr{Name: nm(name), Value: value} }

func el(name string, parts ...any) api.Node {
	n := api.Node{Kind: api.NdElement, Name: nm(name)}
	for _, part := range parts {
		switch x := part.(type) {
		case api.Attr:
			n.Attrs = append(n.Attrs, x)
		case api.Node:
			n.Kids = append(n.Kids, x)
		case string:
			n.Kids = append(n.Kids, tx(x))
		}
	}
	return n
}

func tx(s string) api.Node { return api.Node{Kind: api.NdText, Text: s} }

// start, text and end are events.
func start(name string, attrs ...api.Attr) api.Event {
	return api.Event{Kind: api.EvStart, Name: nm(name), Attrs: attrs}
}

func text(s string) api.Event { return api.Event{Kind: api.EvText, Text: s} }

func end() api.Event { return api.Event{Kind: api.EvEnd} }

// letterD is the document D of the chapter.
func letterD() api.Node { return el("a", at("x", "1"), "t", el("b"), "u") }

// chain is deep elements in each other.
func chain(deep int) api.Node {
	n := el("c")
	for range deep - 1 {
		n = el("c", n)
	}
	return n
}

// wide is an element with that size, all of whose kids are elements.
func wide(size int) api.Node {
	n := el("w")
	for range size - 1 {
		n.Kids = append(n.Kids, el("k"))
	}
	return n
}

// attrs are that many attributes, ascending.
func attrs(count int) []api.Attr {
	var l []api.Attr
	for i := range count {
		l = append(l, at("x"+strconv.Itoa(1000+i), ""))
	}
	return l
}

// selfish are nodes that contain themselves: elements, texts, and elements that do it many times over.
func selfish() []api.Node {
	var l []api.Node
	for _, kind := range []int{api.NdElement, api.NdText, 0} {
		for _, count := range []int{1, 3} {
			kids := make([]api.Node, count)
			for i := range kids {
				kids[i] = api.Node{Kind: kind, Name: nm("a"), Text: "t", Kids: kids}
			}
			l = append(l, kids[0])
		}
	}
	return l
}

// sizeOf and deepOf tell straight from the definitions how large n is, valid or not.
func sizeOf(n api.Node) int {
	size := 1 + len(n.Attrs)
	for _, kid := range n.Kids {
		size += sizeOf(kid)
	}
	return size
}

func deepOf(n api.Node) int {
	deep := 0
	for _, kid := range n.Kids {
		deep = max(deep, deepOf(kid))
	}
	if n.Kind != api.NdText {
		deep++
	}
	return deep
}

func isSmall(n api.Node) bool { return sizeOf(n) <= 300 && deepOf(n) <= 40 }

// isText, nameFits and isValid tell straight from the definitions what is valid.
func isText(s string) bool {
	_, _, e := chars.Decode(s)
	return e == api.OK
}

func nameFits(n api.Name, attribute bool) bool {
	if attribute && n.Space == "" && n.Local == "xmlns" {
		return false
	}
	return chars.Local(n.Local) && isText(n.Space) && len(n.Space) <= 200
}

func isValid(n api.Node) bool {
	if n.Kind == api.NdText {
		return n.Text != "" && isText(n.Text) && n.Name.Space == "" && n.Name.Local == "" && len(n.Attrs)+len(n.Kids) == 0
	}
	if n.Kind != api.NdElement || n.Text != "" || !nameFits(n.Name, false) {
		return false
	}
	for i, a := range n.Attrs {
		for _, b := range n.Attrs[:i] {
			if before(b.Name, a.Name) >= 0 {
				return false
			}
		}
		if !nameFits(a.Name, true) || !isText(a.Value) {
			return false
		}
	}
	for i, kid := range n.Kids {
		if !isValid(kid) || i > 0 && kid.Kind == api.NdText && n.Kids[i-1].Kind == api.NdText {
			return false
		}
	}
	return true
}

// before is negative if a comes before b.
func before(a, b api.Name) int {
	return cmp.Or(cmp.Compare(a.Space, b.Space), cmp.Compare(a.Local, b.Local))
}

// wrong is the error that Check must return.
func wrong(n api.Node) api.Errno {
	switch {
	case !isSmall(n):
		return api.ErrLong
	case !isValid(n):
		return api.ErrArg
	}
	return api.OK
}

// emptied returns n in new memory, with empty lists where it has none; nils with none where it has empty ones.
func emptied(n api.Node) api.Node {
	n.Attrs = append([]api.Attr{}, n.Attrs...)
	kids := []api.Node{}
	for _, kid := range n.Kids {
		kids = append(kids, emptied(kid))
	}
	n.Kids = kids
	return n
}

func nils(n api.Node) api.Node {
	n.Attrs = append([]api.Attr(nil), n.Attrs...)
	var kids []api.Node
	for _, kid := range n.Kids {
		kids = append(kids, nils(kid))
	}
	n.Kids = kids
	return n
}

// equal reports whether a and b have the same fields.
func equal(a, b api.Node) bool { return reflect.DeepEqual(nils(a), nils(b)) }

// eventsOf returns the events of n, and treeOf the element of which these are the events.
func eventsOf(n api.Node) []api.Event {
	if n.Kind == api.NdText {
		return []api.Event{text(n.Text)}
	}
	l := []api.Event{{Kind: api.EvStart, Name: n.Name, Attrs: slices.Clone(n.Attrs)}}
	for _, kid := range n.Kids {
		l = append(l, eventsOf(kid)...)
	}
	return append(l, end())
}

func treeOf(l []api.Event) api.Node {
	n := api.Node{Kind: api.NdElement, Name: l[0].Name, Attrs: slices.Clone(l[0].Attrs)}
	for from := 1; from < len(l)-1; {
		to := behind(l, from)
		if l[from].Kind == api.EvText {
			n.Kids = append(n.Kids, tx(l[from].Text))
		} else {
			n.Kids = append(n.Kids, treeOf(l[from:to]))
		}
		from = to
	}
	return n
}

// behind returns the event behind those of the node that begins with the event from.
func behind(l []api.Event, from int) int {
	open := 0
	for i, e := range l[from:] {
		switch e.Kind {
		case api.EvStart:
			open++
		case api.EvEnd:
			open--
		}
		if open == 0 {
			return from + i + 1
		}
	}
	return len(l)
}

// place returns the events of the node at the end of a path: the first one, and the one behind them. If the path leads behind the last kid of an element, it returns the end of this element; there says whether there is a node.
func place(l []api.Event, path []int) (from, to int, there, ok bool) {
	from, to, there = 0, len(l), true
	for _, i := range path {
		if !there || i < 0 || l[from].Kind != api.EvStart {
			return 0, 0, false, false
		}
		from++
		for range i {
			if l[from].Kind == api.EvEnd {
				return 0, 0, false, false
			}
			from = behind(l, from)
		}
		there = l[from].Kind != api.EvEnd
		if there {
			to = behind(l, from)
		}
	}
	return from, to, there, true
}

// joinTexts returns l with one text for texts that stand beside each other.
func joinTexts(l []api.Event) []api.Event {
	var joined []api.Event
	for i, e := range l {
		if i > 0 && e.Kind == api.EvText && l[i-1].Kind == api.EvText {
			joined[len(joined)-1].Text += e.Text
		} else {
			joined = append(joined, e)
		}
	}
	return joined
}

// allPaths returns the paths of all nodes in n, in document order.
func allPaths(n api.Node) [][]int {
	l := [][]int{{}}
	for i, kid := range n.Kids {
		for _, path := range allPaths(kid) {
			l = append(l, append([]int{i}, path...))
		}
	}
	return l
}

// checkNode compares a node and an error with what is wanted.
func checkNode(t *testing.T, got api.Node, e api.Errno, want api.Node, wantE api.Errno, what ...any) {
	t.Helper()
	if e != wantE || !equal(got, want) {
		t.Errorf("%.300v: %d, want %d\n%.1000v,\nwant\n%.1000v", what, e, wantE, got, want)
	}
}

// doc is the document of a text.
func doc(t *testing.T, s string) api.Node {
	t.Helper()
	n, place, e := tree.Parse(s)
	if e != api.OK {
		t.Fatalf("%q: %d at %d", s, e, place)
	}
	return n
}

// randoms calls try with a source of chance that is always the same.
func randoms(t *testing.T, times int, try func(r *rand.Rand)) {
	t.Helper()
	r := rand.New(rand.NewPCG(1, 2))
	for range times {
		try(r)
		if t.Failed() {
			return
		}
	}
}

// one returns one of l.
func one[A any](r *rand.Rand, l ...A) A { return l[r.IntN(len(l))] }

// randomText is a text that is not empty.
func randomText(r *rand.Rand) string {
	s := ""
	for range 1 + r.IntN(3) {
		s += one(r, "a", "b", " ", "\n", "\r", "\t", "\r\n", "<", ">", "&", "]]>", "\"", "'", "é", "\U0001f600", "&lt;", "<b/>")
	}
	return s
}

// randomName is a name that fits.
func randomName(r *rand.Rand) api.Name {
	space := one(r, "", "", "", "u", "v", "u", "xml", "n1", "xmlns", " a\tb", "<\"&'\r\n", "é")
	return api.Name{Space: space, Local: one(r, "a", "b", "c", "a-1", "é", "n1", "xml", "xmlns")}
}

// randomAttr is an attribute that fits.
func randomAttr(r *rand.Rand) api.Attr {
	a := api.Attr{Name: randomName(r)}
	if a.Name == nm("xmlns") {
		a.Name.Local = "x"
	}
	if r.IntN(4) > 0 {
		a.Value = randomText(r)
	}
	return a
}

// randomElement is a valid element.
func randomElement(r *rand.Rand, deep int) api.Node {
	n := api.Node{Kind: api.NdElement, Name: randomName(r)}
	has := map[api.Name]bool{}
	for range r.IntN(4) {
		a := randomAttr(r)
		if !has[a.Name] {
			has[a.Name] = true
			n.Attrs = append(n.Attrs, a)
		}
	}
	slices.SortFunc(n.Attrs, func(a, b api.Attr) int { return before(a.Name, b.Name) })
	if deep == 0 {
		return n
	}
	for range r.IntN(5) {
		if count := len(n.Kids); r.IntN(2) == 0 && (count == 0 || n.Kids[count-1].Kind == api.NdElement) {
			n.Kids = append(n.Kids, tx(randomText(r)))
		} else {
			n.Kids = append(n.Kids, randomElement(r, deep-1))
		}
	}
	return n
}

// randomDoc is a document.
func randomDoc(r *rand.Rand) api.Node { return randomElement(r, r.IntN(4)) }

// noTexts are strings that are no texts.
var noTexts = []string{"\x00", "a\x0b", "\xff", "a\xc3", "\xed\xa0\x80", "\uffff", "a\x1fb"}

// noLocals are strings that are no local names.
func noLocals() []string {
	return append([]string{"", "1", "-a", "a:b", ":a", "a ", " ", "a\n", "×", strings.Repeat("x", 201), strings.Repeat("é", 101)}, noTexts...)
}

// noNames are names that do not fit.
func noNames() []api.Name {
	l := []api.Name{{}, {Space: strings.Repeat("s", 201), Local: "a"}, {Space: strings.Repeat("é", 101), Local: "a"}}
	for _, s := range noLocals() {
		l = append(l, api.Name{Local: s}, api.Name{Space: "u", Local: s})
	}
	for _, s := range noTexts {
		l = append(l, api.Name{Space: s, Local: "a"})
	}
	return l
}

// spoiled returns n with something changed in one of its nodes, which is mostly wrong then.
func spoiled(r *rand.Rand, n api.Node) api.Node {
	n = nils(n)
	at := &n
	for len(at.Kids) > 0 && r.IntN(3) > 0 {
		at = &at.Kids[r.IntN(len(at.Kids))]
	}
	switch r.IntN(9) {
	case 0:
		at.Kind = one(r, api.NdElement, api.NdText, 0, 3, -1)
	case 1:
		at.Name = one(r, noNames()...)
	case 2:
		at.Name = randomName(r)
	case 3:
		at.Text = one(r, "", "a", "a\x00")
	case 4:
		at.Attrs = append(at.Attrs, randomAttr(r))
	case 5:
		at.Attrs = append(at.Attrs, api.Attr{Name: one(r, noNames()...)})
	case 6:
		at.Attrs = append(at.Attrs, api.Attr{Name: nm("z:z"), Value: one(r, noTexts...)})
	case 7:
		at.Kids = append(at.Kids, tx("a"))
	case 8:
		at.Kids = append(at.Kids, el("z"))
	}
	return n
}

// randomPath leads to a node of n, to a place where one may be inserted, or to none.
func randomPath(r *rand.Rand, n api.Node) []int {
	path := slices.Clone(one(r, allPaths(n)...))
	last := len(path) - 1
	switch {
	case r.IntN(6) == 0:
		path = append(path, r.IntN(3)-1)
	case r.IntN(6) == 0 && last >= 0:
		path[last] += one(r, 1, 2, -1, 1<<40)
	}
	return path
}
