package tree_test

import (
	"math/rand/v2"
	"slices"
	"strconv"
	"strings"
	"testing"

	"gabarit/api"
	"gabarit/scan"
	"gabarit/tree"
)

// P4.3: what is parsed.
func TestParse(t *testing.T) {
	for _, c := range []struct {
		s    string
		want api.Node
	}{
		{`<a x="1">t<b/>u</a>`, letterD()},
		{`<a/>`, el("a")},
		{` <!-- c --><p:a xmlns:p="u" p:x="1" y='2'><p:b/><c></c></p:a> `, el("u:a", at("y", "2"), at("u:x", "1"), el("u:b"), el("c"))},
		{`<a xmlns="u" y="&lt;" x="&#10;">&lt;<!-- c --><![CDATA[<]]>` + "\r\n</a>", el("u:a", at("x", "\n"), at("y", "<"), "<<\n")},
		{`<a><b>t</b><b>u</b>v</a>`, el("a", el("b", "t"), el("b", "u"), "v")},
		{strings.Repeat("<c>", 39) + "<c/>" + strings.Repeat("</c>", 39), chain(40)},
		{"<w>" + strings.Repeat("<k/>", 299) + "</w>", wide(300)},
	} {
		n, place, e := tree.Parse(c.s)
		checkNode(t, n, e, c.want, api.OK, c.s)
		if place != 0 {
			t.Errorf("Parse(%.300q): %d", c.s, place)
		}
	}
}

// P4.3: the errors of scan.
func TestParseErrors(t *testing.T) {
	for _, c := range []struct {
		s     string
		place int
		want  api.Errno
	}{
		{"<a></b>", 3, api.ErrTag}, {`<a x="1" x="2"/>`, 9, api.ErrAttr}, {"<p:a/>", 0, api.ErrPrefix}, {"<a>&b;</a>", 3, api.ErrEntity}, {"<a", 2, api.ErrEnd}, {"", 0, api.ErrEnd},
		{"<a/>b", 4, api.ErrSyntax}, {"<a>\xff</a>", 3, api.ErrForm}, {strings.Repeat("<a>", 41), 120, api.ErrLong}, {"<a/>" + strings.Repeat(" ", 60000), 60000, api.ErrLong}, {"<w>" + strings.Repeat("<k/>", 300) + "</w>", 3 + 4*299, api.ErrLong},
	} {
		n, place, e := tree.Parse(c.s)
		checkNode(t, n, e, api.Node{}, c.want, c.s)
		if place != c.place {
			t.Errorf("Parse(%.300q): %d, want %d", c.s, place, c.place)
		}
	}
	pieces := []string{"<a>", "<a>", "<a/>", "</a>", "</a>", "<b>", "</b>", "t", "&lt;", "&", "<p:a/>", "<a x='1'/>", "<a x='' x=''/>", "<!-- -->", "<", "\xff", " ", "<p:a xmlns:p='u'>", "</p:a>"}
	randoms(t, 20000, func(r *rand.Rand) {
		s := "<a>"
		for range r.IntN(8) {
			s += one(r, pieces...)
		}
		s += one(r, "", "</a>", "</a>")
		events, place, e := scan.Scan(s)
		want := api.Node{}
		if e == api.OK {
			want = treeOf(events)
		}
		n, at, got := tree.Parse(s)
		checkNode(t, n, got, want, e, s)
		if at != place {
			t.Errorf("Parse(%q): %d, want %d", s, at, place)
		}
	})
}

// textOf writes the canonical text of n straight from the definition.
func textOf(n api.Node) string {
	var spaces []string
	for _, e := range eventsOf(n) {
		l := []string{e.Name.Space}
		for _, a := range e.Attrs {
			l = append(l, a.Name.Space)
		}
		for _, space := range l {
			if space != "" && space != "xml" && !slices.Contains(spaces, space) {
				spaces = append(spaces, space)
			}
		}
	}
	inText := strings.NewReplacer("<", "&lt;", ">", "&gt;", "&", "&amp;", "\r", "&#13;")
	inValue := strings.NewReplacer("<", "&lt;", ">", "&gt;", "&", "&amp;", "\r", "&#13;", `"`, "&quot;", "\t", "&#9;", "\n", "&#10;")
	raw := func(n api.Name) string {
		switch n.Space {
		case "":
			return n.Local
		case "xml":
			return "xml:" + n.Local
		}
		return "n" + strconv.Itoa(1+slices.Index(spaces, n.Space)) + ":" + n.Local
	}
	declarations := ""
	for i, space := range spaces {
		declarations += " xmlns:n" + strconv.Itoa(i+1) + `="` + inValue.Replace(space) + `"`
	}
	var write func(n api.Node, more string) string
	write = func(n api.Node, more string) string {
		if n.Kind == api.NdText {
			return inText.Replace(n.Text)
		}
		tag := raw(n.Name) + more
		for _, a := range n.Attrs {
			tag += " " + raw(a.Name) + `="` + inValue.Replace(a.Value) + `"`
		}
		inside := ""
		for _, kid := range n.Kids {
			inside += write(kid, "")
		}
		if len(n.Kids) == 0 {
			return "<" + tag + "/>"
		}
		return "<" + tag + ">" + inside + "</" + raw(n.Name) + ">"
	}
	return write(n, declarations)
}

// P4.3: the canonical text.
func TestPrint(t *testing.T) {
	many, manyText := el("a"), "<a"
	for i := range 12 {
		many.Kids = append(many.Kids, el("s"+strconv.Itoa(50-i)+":b"))
		manyText += " xmlns:n" + strconv.Itoa(i+1) + `="s` + strconv.Itoa(50-i) + `"`
	}
	manyText += ">"
	for i := range 12 {
		manyText += "<n" + strconv.Itoa(i+1) + ":b/>"
	}
	for _, c := range []struct {
		n    api.Node
		want string
	}{
		{doc(t, `<p:a xmlns:p="u" p:x="1" xml:y=""><p:b/></p:a>`), `<n1:a xmlns:n1="u" n1:x="1" xml:y=""><n1:b/></n1:a>`},
		{letterD(), `<a x="1">t<b/>u</a>`},
		{el("a"), `<a/>`},
		{el("a", el("b", "t"), el("c")), `<a><b>t</b><c/></a>`},
		{el("xml:a", at("xml:x", "")), `<xml:a xml:x=""/>`},
		{el("a", el("v:b", el("u:c")), el("v:d"), el("u:e")), `<a xmlns:n1="v" xmlns:n2="u"><n1:b><n2:c/></n1:b><n1:d/><n2:e/></a>`},
		{el("w:a", at("u:x", "1"), at("v:x", "2"), el("u:b")), `<n1:a xmlns:n1="w" xmlns:n2="u" xmlns:n3="v" n2:x="1" n3:x="2"><n2:b/></n1:a>`},
		{el("a", at("u:x", ""), el("v:b", at("t:x", ""), el("s:c")), el("r:d")), `<a xmlns:n1="u" xmlns:n2="v" xmlns:n3="t" xmlns:n4="s" xmlns:n5="r" n1:x=""><n2:b n3:x=""><n4:c/></n2:b><n5:d/></a>`},
		{el("a", at("a", ""), at("u:x", ""), at("u:y", "")), `<a xmlns:n1="u" a="" n1:x="" n1:y=""/>`},
		{el("n1:a", at("n1:x", ""), el("n2:b")), `<n1:a xmlns:n1="n1" xmlns:n2="n2" n1:x=""><n2:b/></n1:a>`},
		{el("xmlns:a", el("XML:b")), `<n1:a xmlns:n1="xmlns" xmlns:n2="XML"><n2:b/></n1:a>`},
		{el("xmlns"), `<xmlns/>`},
		{el("a", "<b>&\"'\t\n\r]]>é"), "<a>&lt;b&gt;&amp;\"'\t\n&#13;]]&gt;é</a>"},
		{el("a", at("x", "<b>&\"'\t\n\r é")), `<a x="&lt;b&gt;&amp;&quot;'&#9;&#10;&#13; é"/>`},
		{api.Node{Kind: api.NdElement, Name: api.Name{Space: " <\"&\t\r\n", Local: "a"}}, `<n1:a xmlns:n1=" &lt;&quot;&amp;&#9;&#13;&#10;"/>`},
		{el("a", " "), `<a> </a>`},
		{el("a", el("b"), "t"), `<a><b/>t</a>`},
		{el("a", el("b", el("c"), el("c", at("x", "1"), "t")), "t"), `<a><b><c/><c x="1">t</c></b>t</a>`},
		{many, manyText + "</a>"},
	} {
		if s, e := tree.Print(c.n); s != c.want || e != api.OK {
			t.Errorf("Print(%v): %q, %d, want %q", c.n, s, e, c.want)
		}
	}
	randoms(t, 5000, func(r *rand.Rand) {
		n := randomDoc(r)
		if s, e := tree.Print(n); s != textOf(n) || e != api.OK {
			t.Errorf("Print(%.1000v): %q, %d, want %q", n, s, e, textOf(n))
		}
	})
	long := el("a", strings.Repeat("<", 100000))
	if s, e := tree.Print(long); s != textOf(long) || e != api.OK {
		t.Errorf("Print of a long text: %d bytes, %d", len(s), e)
	}
}
