package scan_test

import (
	"math/rand/v2"
	"strings"
	"testing"

	"gabarit/api"
	"gabarit/names"
	"gabarit/scan"
)

// nm is a name, written as space:local.
func nm(s string) api.Name {
	space, local, ok := strings.Cut(s, ":")
	if !ok {
		space, local = "", s
	}
	return api.Name{Space: space, Local: local}
}

// start is an EvStart; attrs are names and values by turns.
func start(at int, name string, attrs ...string) api.Event {
	var l []api.Attr
	for i := 0; i < len(attrs); i += 2 {
		l = append(l, api.Attr{Name: nm(attrs[i]), Value: attrs[i+1]})
	}
	return api.Event{Kind: api.EvStart, Name: nm(name), Attrs: l, At: at}
}

func text(at int, s string) api.Event { return api.Event{Kind: api.EvText, Text: s, At: at} }
func end(at int) api.Event            { return api.Event{Kind: api.EvEnd, At: at} }

// documents are texts with their events.
var documents = []struct {
	s    string
	want []api.Event
}{
	// The examples of the chapter.
	{`<a x="1">b</a>`, []api.Event{start(0, "a", "x", "1"), text(9, "b"), end(10)}},
	{`<p:a xmlns:p="u"/>`, []api.Event{start(0, "u:a"), end(16)}},
	{`<a>&lt;<!-- c --><![CDATA[<]]></a>`, []api.Event{start(0, "a"), text(3, "<<"), end(30)}},
	// What stands around the root.
	{"<a/>", []api.Event{start(0, "a"), end(2)}},
	{" \t\r\n\r<a/> \n", []api.Event{start(5, "a"), end(7)}},
	{"<!--x--> <!----><a/><!--]]>&b;<a>--> <!--->-->", []api.Event{start(16, "a"), end(18)}},
	{"<!-- - -x->--><a></a >", []api.Event{start(14, "a"), end(17)}},
	// Tags.
	{"<a\n>\n</a\t\r\n>", []api.Event{start(0, "a"), text(4, "\n"), end(5)}},
	{"<a />", []api.Event{start(0, "a"), end(3)}},
	{"<a x \n = \r\n '1' y=\"2\"/>", []api.Event{start(0, "a", "x", "1", "y", "2"), end(21)}},
	{"<é·.-1_/>", []api.Event{start(0, "é·.-1_"), end(9)}},
	{"<a><b></b><c/></a>", []api.Event{start(0, "a"), start(3, "b"), end(6), start(10, "c"), end(12), end(14)}},
	// Values.
	{`<a x='"' y="'>"/>`, []api.Event{start(0, "a", "x", `"`, "y", "'>"), end(15)}},
	{"<a x='1\t2\n3\r4\r\n5\n\r6\r\r\n7'/>", []api.Event{start(0, "a", "x", "1 2 3 4 5  6  7"), end(24)}},
	{"<a x='&#9;&#10;&#13;\n&#32;&lt;&apos;&#13;&#10;'/>", []api.Event{start(0, "a", "x", "\t\n\r  <'\r\n"), end(47)}},
	{"<a x='&#13;\n'/>", []api.Event{start(0, "a", "x", "\r "), end(13)}},
	{"<a x='' y=']]>'/>", []api.Event{start(0, "a", "x", "", "y", "]]>"), end(15)}},
	// Texts.
	{"<a>\r\nb\rc\r\r\nd\n\r</a>", []api.Event{start(0, "a"), text(3, "\nb\nc\n\nd\n\n"), end(14)}},
	{"<a>&#13;\n&#13;</a>", []api.Event{start(0, "a"), text(3, "\r\n\r"), end(14)}},
	{"<a><![CDATA[\r\n\r]]]]></a>", []api.Event{start(0, "a"), text(3, "\n\n]]"), end(20)}},
	{"<a>\r<![CDATA[\n]]></a>", []api.Event{start(0, "a"), text(3, "\n\n"), end(17)}},
	{"<a><![CDATA[]]></a>", []api.Event{start(0, "a"), end(15)}},
	{"<a><![CDATA[]]>b</a>", []api.Event{start(0, "a"), text(15, "b"), end(16)}},
	{"<a><![CDATA[]]><![CDATA[b]]>c</a>", []api.Event{start(0, "a"), text(15, "bc"), end(29)}},
	{"<a><!--c-->b<!--c-->&#98;<!--c--></a>", []api.Event{start(0, "a"), text(11, "bb"), end(33)}},
	{"<a><!--c-->&lt;b</a>", []api.Event{start(0, "a"), text(11, "<b"), end(16)}},
	{"<a>b<c/>d<c></c> </a>", []api.Event{start(0, "a"), text(3, "b"), start(4, "c"), end(6), text(8, "d"), start(9, "c"), end(12), text(16, " "), end(17)}},
	{"<a><![CDATA[<b>&c;-->]>]]></a>", []api.Event{start(0, "a"), text(3, "<b>&c;-->]>"), end(26)}},
	// ]]> that does not stand in content.
	{"<a>]]</a>", []api.Event{start(0, "a"), text(3, "]]"), end(5)}},
	{"<a>]]&gt;]>] ]></a>", []api.Event{start(0, "a"), text(3, "]]>]>] ]>"), end(15)}},
	{"<a>]]<!---->>]<!---->]><![CDATA[]]>></a>", []api.Event{start(0, "a"), text(3, "]]>]]>>"), end(36)}},
	{"<a>]]<b/>></a>", []api.Event{start(0, "a"), text(3, "]]"), start(5, "b"), end(7), text(9, ">"), end(10)}},
	{"<a>]&#93;></a>", []api.Event{start(0, "a"), text(3, "]]>"), end(10)}},
	{"<a><![CDATA[]]]]><![CDATA[>]]></a>", []api.Event{start(0, "a"), text(3, "]]>"), end(30)}},
	{"<a><!-- ]]> --><b x=']]>'/></a>", []api.Event{start(0, "a"), start(15, "b", "x", "]]>"), end(25), end(27)}},
	// References.
	{"<a>&amp;&quot;&apos;&gt;&#00000000000000000065;&#x00000000000000000041;</a>", []api.Event{start(0, "a"), text(3, `&"'>AA`), end(71)}},
	// Spaces.
	{"<a xmlns='u' x='1'><b/></a>", []api.Event{start(0, "u:a", "x", "1"), start(19, "u:b"), end(21), end(23)}},
	{"<a xmlns='u'><b xmlns=''><c/></b><d/></a>", []api.Event{start(0, "u:a"), start(13, "b"), start(25, "c"), end(27), end(29), start(33, "u:d"), end(35), end(37)}},
	{"<a xmlns:p='u'><p:b xmlns:p='v' p:x='1'/><p:c/></a>", []api.Event{start(0, "a"), start(15, "v:b", "v:x", "1"), end(39), start(41, "u:c"), end(45), end(47)}},
	{"<a x='1' xmlns:x='u' x:x='2'/>", []api.Event{start(0, "a", "x", "1", "u:x", "2"), end(28)}},
	{"<xml:a xml:b='1'/>", []api.Event{start(0, "xml:a", "xml:b", "1"), end(16)}},
	{"<xmlns p:xmlns='1' xmlns:p='&lt;\t'/>", []api.Event{start(0, "xmlns", "< :xmlns", "1"), end(34)}},
	{"<p:a xmlns='w' xmlns:p='v'><b/></p:a>", []api.Event{start(0, "v:a"), start(27, "w:b"), end(29), end(31)}},
	{"<a xmlns:p='xml' p:x='1'/>", []api.Event{start(0, "a", "xml:x", "1"), end(24)}},
	{"<a xmlns:p='u' xmlns:q='u'><p:b></p:b></a>", []api.Event{start(0, "a"), start(27, "u:b"), end(32), end(38)}},
	// Attributes ascend by their names, not by what stands there.
	{"<a y='1' p:a='2' x='3' q:b='4' q:a='5' xmlns:p='v' xmlns:q='u'/>", []api.Event{start(0, "a", "x", "3", "y", "1", "u:a", "5", "u:b", "4", "v:a", "2"), end(62)}},
	{"<a b='1' B='2' a-='3' a='4'/>", []api.Event{start(0, "a", "B", "2", "a", "4", "a-", "3", "b", "1"), end(27)}},
}

// P3.1: documents and their events.
func TestDocuments(t *testing.T) {
	for _, c := range documents {
		check(t, c.s, outcome{events: c.want})
	}
}

// errors are texts with their errors.
var errors = []struct {
	s     string
	e     api.Errno
	place int
}{
	// The examples of the chapter.
	{"<a></b>", api.ErrTag, 3},
	{`<a x="1" x="2"/>`, api.ErrAttr, 9},
	{"<p:a/>", api.ErrPrefix, 0},
	{"<a>&b;</a>", api.ErrEntity, 3},
	{"<a", api.ErrEnd, 2},
	{"<a/>b", api.ErrSyntax, 4},
	{"<a b/>", api.ErrSyntax, 4},
	{"<a>]]></a>", api.ErrSyntax, 5},
	{"", api.ErrEnd, 0},
	// No characters.
	{"\xff", api.ErrForm, 0}, {"<a>\x00", api.ErrForm, 3}, {"<a>é\xc3</a>", api.ErrForm, 5}, {"<a>\xe2\x82", api.ErrForm, 3}, {"<a/>\xc3", api.ErrForm, 4}, {"<!--\xed\xa0\x80-->", api.ErrForm, 4}, {"<a>&\x0b", api.ErrForm, 4}, {"<a x='\ufffe'/>", api.ErrForm, 6}, {"<\xf4\x90\x80\x80", api.ErrForm, 1},
	// Around the root.
	{"a", api.ErrSyntax, 0}, {"\ufeff<a/>", api.ErrSyntax, 0}, {"&lt;<a/>", api.ErrSyntax, 0}, {"<a/><a/>", api.ErrSyntax, 5}, {"<a/></a>", api.ErrSyntax, 5}, {"</a>", api.ErrSyntax, 1}, {"<?xml?><a/>", api.ErrSyntax, 1}, {"<!DOCTYPE a><a/>", api.ErrSyntax, 2}, {"<![CDATA[]]><a/>", api.ErrSyntax, 2}, {"<a/><![CDATA[]]>", api.ErrSyntax, 6}, {"<a/> ]", api.ErrSyntax, 5}, {"<a></a>&lt;", api.ErrSyntax, 7},
	{" ", api.ErrEnd, 1}, {"<!-- -->", api.ErrEnd, 8}, {"<", api.ErrEnd, 1}, {"<a/><", api.ErrEnd, 5}, {"<a/><!", api.ErrEnd, 6}, {"<a/><!-", api.ErrEnd, 7}, {"<a/><!--", api.ErrEnd, 8}, {"<a/><!---", api.ErrEnd, 9}, {"<a/><!----", api.ErrEnd, 10},
	// Comments.
	{"<!-x", api.ErrSyntax, 3}, {"<!-- -- -->", api.ErrSyntax, 7}, {"<!----->", api.ErrSyntax, 6}, {"<!-- --->", api.ErrSyntax, 7}, {"<!--->", api.ErrEnd, 6}, {"<a><!--</a>", api.ErrEnd, 11}, {"<a><!----\n></a>", api.ErrSyntax, 9},
	// Raw names.
	{"<1/>", api.ErrSyntax, 1}, {"<-a/>", api.ErrSyntax, 1}, {"<:a/>", api.ErrSyntax, 1}, {"<a:/>", api.ErrSyntax, 3}, {"<a:1/>", api.ErrSyntax, 3}, {"<a:b:c/>", api.ErrSyntax, 4}, {"< a/>", api.ErrSyntax, 1}, {"<·/>", api.ErrSyntax, 1}, {"<a×/>", api.ErrSyntax, 2}, {"<a:\n", api.ErrSyntax, 3}, {"<\r", api.ErrSyntax, 1},
	{"<a></ a>", api.ErrSyntax, 5}, {"<a></1>", api.ErrSyntax, 5}, {"<a></a:>", api.ErrSyntax, 7}, {"<a></a b>", api.ErrSyntax, 7}, {"<a></a/>", api.ErrSyntax, 6}, {"<a></>", api.ErrSyntax, 5},
	// Tags and attributes.
	{"<a/ >", api.ErrSyntax, 3}, {"<a//>", api.ErrSyntax, 3}, {"<a<", api.ErrSyntax, 2}, {"<a=", api.ErrSyntax, 2}, {"<a =", api.ErrSyntax, 3}, {"<a 'b'/>", api.ErrSyntax, 3}, {"<a x 'b'/>", api.ErrSyntax, 5}, {"<a x=b/>", api.ErrSyntax, 5}, {"<a x=>", api.ErrSyntax, 5}, {"<a x=='b'/>", api.ErrSyntax, 5}, {"<a x='b'y='c'/>", api.ErrSyntax, 8}, {"<a x='b''c'/>", api.ErrSyntax, 8}, {"<a x='b/>", api.ErrEnd, 9}, {"<a x='<'/>", api.ErrSyntax, 6}, {"<a 1='b'/>", api.ErrSyntax, 3}, {"<a x:='b'/>", api.ErrSyntax, 5}, {"<a x='b\"/>", api.ErrEnd, 10}, {"<a x='b' /x", api.ErrSyntax, 10}, {"<a :x='b'/>", api.ErrSyntax, 3},
	// Content.
	{"<a><?b?></a>", api.ErrSyntax, 4}, {"<a><!b></a>", api.ErrSyntax, 5}, {"<a><![cDATA[]]></a>", api.ErrSyntax, 6}, {"<a><![CDATA []]></a>", api.ErrSyntax, 11}, {"<a><![CDATA]]></a>", api.ErrSyntax, 11}, {"<a>]]]></a>", api.ErrSyntax, 6}, {"<a><![CDATA[]]>]]></a>", api.ErrSyntax, 17}, {"<a><b/>]]>", api.ErrSyntax, 9}, {"<a><![CDATA[]></a>", api.ErrEnd, 18}, {"<a><![CDATA[] ]></a>", api.ErrEnd, 20}, {"<a>b", api.ErrEnd, 4}, {"<a></a", api.ErrEnd, 6}, {"<a><b></b>", api.ErrEnd, 10}, {"<a>< </a>", api.ErrSyntax, 4},
	// References.
	{"<a>&;", api.ErrEntity, 3}, {"<a>b& c", api.ErrEntity, 4}, {"<a>&lt<", api.ErrEntity, 3}, {"<a>&&lt;", api.ErrEntity, 3}, {"<a>&#x110000;", api.ErrEntity, 3}, {"<a>&#0;", api.ErrEntity, 3}, {"<a>&LT;", api.ErrEntity, 3}, {"<a>&#000000000000000000065;", api.ErrEntity, 3}, {"<a>&é", api.ErrEntity, 3}, {"<a>&a-", api.ErrEntity, 3}, {"<a>&a_", api.ErrEntity, 3}, {"<a>&a:", api.ErrEntity, 3}, {"<a x='b&c;'/>", api.ErrEntity, 7}, {"<a x='&lt'/>", api.ErrEntity, 6}, {"<a x='&c;' x=''", api.ErrEntity, 6}, {"<a>&\n", api.ErrEntity, 3}, {"<a>&@", api.ErrEntity, 3}, {"<a>&[", api.ErrEntity, 3}, {"<a>&`", api.ErrEntity, 3}, {"<a>&{", api.ErrEntity, 3}, {"<a>&/", api.ErrEntity, 3},
	{"<a>&azAZ09#", api.ErrEnd, 11}, {"<a>&", api.ErrEnd, 4}, {"<a>&b", api.ErrEnd, 5}, {"<a>&0123456789012345678901AZ", api.ErrEnd, 28}, {"<a>&0123456789012345678901az#", api.ErrEntity, 3}, {"<a>&0123456789012345678901az;", api.ErrEntity, 3}, {"<a x='&b", api.ErrEnd, 8},
	// End tags: raw names are compared, not names.
	{"<a><b></a>", api.ErrTag, 6}, {"<a xmlns:p='u' xmlns:q='u'><p:b></q:b>", api.ErrTag, 32}, {"<p:a xmlns='u' xmlns:p='u'></a>", api.ErrTag, 27}, {"<a></a:a>", api.ErrTag, 3}, {"<a></ab>", api.ErrTag, 3}, {"<ab></a>", api.ErrTag, 4}, {"<a>b</é", api.ErrEnd, 8},
	// Attributes that are there twice.
	{"<a y='' x='' y='' x=''/>", api.ErrAttr, 13}, {"<a xmlns='u' xmlns='v'/>", api.ErrAttr, 13}, {"<a xmlns:p='u' xmlns:p='u'/>", api.ErrAttr, 15}, {"<a p:x='' p:x=''/>", api.ErrAttr, 10}, {"<a x='' x=''", api.ErrEnd, 12}, {"<a x='' x='' /x", api.ErrSyntax, 14}, {"<a xmlns:xml='' x='' x=''/>", api.ErrAttr, 21},
	{"<b><a xmlns:p='u' xmlns:q='u' p:x='' q:x=''/></b>", api.ErrAttr, 3}, {"<a xmlns:p='xml' p:x='' xml:x=''/>", api.ErrAttr, 0},
	// Prefixes.
	{"<b><a p:x=''/></b>", api.ErrPrefix, 3}, {"<a><p:b xmlns:p='u'/><p:c/></a>", api.ErrPrefix, 21}, {"<xmlns:a/>", api.ErrPrefix, 0}, {"<a xmlns:p=''/>", api.ErrPrefix, 0}, {"<a xmlns:xml='xml'/>", api.ErrPrefix, 0}, {"<a xmlns:xml='u'/>", api.ErrPrefix, 0}, {"<a xmlns:xmlns='u'/>", api.ErrPrefix, 0}, {"<a xmlns:p='u'><b xmlns:p=''/></a>", api.ErrPrefix, 15}, {"<a xmlns:p='u' xmlns:q='u' p:x='' q:x='' r:x=''/>", api.ErrPrefix, 0}, {"<a xmlns:p='u' xmlns:q='u' p:x='' q:x='' xmlns:r=''/>", api.ErrPrefix, 0}, {"<P:a xmlns:p='u'/>", api.ErrPrefix, 0},
	// What is read first counts.
	{"<p:a/>\xff", api.ErrPrefix, 0}, {"<a></b>b", api.ErrTag, 3}, {"<p:a \xff", api.ErrForm, 5}, {"<a></b", api.ErrEnd, 6}, {"<a/>\xff&", api.ErrForm, 4}, {"<a/>b\xff", api.ErrSyntax, 4},
}

// P3.1: texts that are no documents.
func TestErrors(t *testing.T) {
	for _, c := range errors {
		check(t, c.s, outcome{e: c.e, place: c.place})
	}
}

// P3.1: the tables agree with the definitions, as the model of the tests reads them.
func TestModel(t *testing.T) {
	for _, c := range documents {
		check(t, c.s, expected(c.s))
	}
	for _, c := range errors {
		check(t, c.s, expected(c.s))
	}
}

// P3.1: what Scan answers is what the definitions say.
func TestRandomTexts(t *testing.T) {
	t.Parallel()
	good := 0
	randoms(t, 12000, func(r *rand.Rand) {
		s := randomText(r)
		want := expected(s)
		check(t, s, want)
		if want.e == api.OK {
			good++
		}
	})
	if good < 1000 {
		t.Errorf("only %d documents", good)
	}
}

// P3.1: each beginning of the documents, with each character of a list behind it.
func TestNextCharacters(t *testing.T) {
	t.Parallel()
	next := strings.Split("< > / ! a 1 : = ' \" \t \r & ; # ] - [ C é · × \xff \xc3 \ufeff", " ")
	for _, s := range []string{
		"<a x = \"1&lt;\" p:y='2' xmlns:p='u' >b&#65;<b/>]]<![CDATA[]]]><]]><!--- -->c</a >", " <!----><p:a xmlns:p='u'/ >", "<a/><!-- --> ", "<a><b><c></c></b></a>",
	} {
		for i := range len(s) + 1 {
			for _, c := range append(next, " ") {
				x := s[:i] + c
				check(t, x, expected(x))
			}
		}
	}
}

// P3.5
func TestNesting(t *testing.T) {
	randoms(t, 3000, func(r *rand.Rand) {
		s := randomDocument(r)
		events, _, e := scan.Scan(s)
		if e != api.OK {
			return
		}
		depth, last := 0, 0
		for i, event := range events {
			switch event.Kind {
			case api.EvStart:
				depth++
				for j := 1; j < len(event.Attrs); j++ {
					if !names.Less(event.Attrs[j-1].Name, event.Attrs[j].Name) {
						t.Errorf("%q: the attributes of %v do not ascend", s, event)
					}
				}
			case api.EvText:
				if event.Text == "" || last == api.EvText {
					t.Errorf("%q: a text is empty or beside another one", s)
				}
			case api.EvEnd:
				depth--
			default:
				t.Errorf("%q: kind %d", s, event.Kind)
			}
			last = event.Kind
			if depth < 0 || depth == 0 != (i == len(events)-1) {
				t.Errorf("%q: event %d is at depth %d", s, i, depth)
			}
		}
	})
}
