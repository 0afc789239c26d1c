package tree_test

import (
	"math/rand/v2"
	"slices"
	"sort"
	"testing"

	"gabarit/api"
	"gabarit/tree"
)

// placed returns l with other places.
func placed(l []api.Event) []api.Event {
	l = slices.Clone(l)
	for i := range l {
		l[i].At = 7*i - 3
	}
	return l
}

// repeated is times of e.
func repeated(times int, l ...api.Event) []api.Event { return slices.Repeat(l, times) }

// P4.2: what is built.
func TestBuild(t *testing.T) {
	for _, c := range []struct {
		l    []api.Event
		want api.Node
	}{
		{[]api.Event{start("a"), end()}, el("a")},
		{[]api.Event{start("a", at("x", "1")), text("t"), start("b"), end(), text("u"), end()}, letterD()},
		{[]api.Event{start("u:a"), start("b"), start("c"), end(), end(), start("d"), text("t"), end(), text("u"), end()}, el("u:a", el("b", el("c")), el("d", "t"), "u")},
		{[]api.Event{start("a"), text("t"), start("b"), text("t"), end(), text("t"), end()}, el("a", "t", el("b", "t"), "t")},
		{slices.Concat(repeated(40, start("c")), repeated(40, end())), chain(40)},
		{slices.Concat([]api.Event{start("w")}, repeated(299, start("k"), end()), []api.Event{end()}), wide(300)},
		{[]api.Event{start("a", attrs(299)...), end()}, api.Node{Kind: api.NdElement, Name: nm("a"), Attrs: attrs(299)}},
		{[]api.Event{start("a", attrs(298)...), text("t"), end()}, api.Node{Kind: api.NdElement, Name: nm("a"), Attrs: attrs(298), Kids: []api.Node{tx("t")}}},
	} {
		n, place, e := tree.Build(c.l)
		checkNode(t, n, e, c.want, api.OK, c.l)
		if place != 0 {
			t.Errorf("Build(%.300v): %d", c.l, place)
		}
		n, _, e = tree.Build(placed(c.l))
		checkNode(t, n, e, c.want, api.OK, "with places", c.l)
	}
}

// P4.2: the first event that is wrong.
func TestBuildErrors(t *testing.T) {
	a, b := start("a"), start("b")
	with := func(e api.Event, change func(e *api.Event)) api.Event {
		change(&e)
		return e
	}
	cases := []struct {
		l     []api.Event
		place int
		want  api.Errno
	}{
		{nil, 0, api.ErrForm},
		{[]api.Event{}, 0, api.ErrForm},
		{[]api.Event{a, text("t"), text("u")}, 2, api.ErrForm},
		{[]api.Event{a, text("t"), text("u"), end()}, 2, api.ErrForm},
		{[]api.Event{a, b, end(), text("t"), text("u"), end()}, 4, api.ErrForm},
		{[]api.Event{text("t"), a, end()}, 0, api.ErrForm},
		{[]api.Event{end()}, 0, api.ErrForm},
		{[]api.Event{a}, 1, api.ErrForm},
		{[]api.Event{a, b, end()}, 3, api.ErrForm},
		{[]api.Event{a, text("t")}, 2, api.ErrForm},
		{[]api.Event{a, end(), end()}, 2, api.ErrForm},
		{[]api.Event{a, end(), text("t")}, 2, api.ErrForm},
		{[]api.Event{a, end(), b, end()}, 2, api.ErrForm},
		{[]api.Event{a, b, end(), end(), {}}, 4, api.ErrForm},
		{[]api.Event{a, text("")}, 1, api.ErrForm},
		{[]api.Event{a, {}}, 1, api.ErrForm},
		{[]api.Event{a, {Kind: 4}}, 1, api.ErrForm},
		{[]api.Event{{Kind: -1}}, 0, api.ErrForm},
		{[]api.Event{with(a, func(e *api.Event) { e.Text = "t" })}, 0, api.ErrForm},
		{[]api.Event{a, with(text("t"), func(e *api.Event) { e.Name = nm("a") })}, 1, api.ErrForm},
		{[]api.Event{a, with(text("t"), func(e *api.Event) { e.Name.Space = "u" })}, 1, api.ErrForm},
		{[]api.Event{a, with(text("t"), func(e *api.Event) { e.Attrs = attrs(1) })}, 1, api.ErrForm},
		{[]api.Event{a, with(end(), func(e *api.Event) { e.Name = nm("a") })}, 1, api.ErrForm},
		{[]api.Event{a, with(end(), func(e *api.Event) { e.Name.Space = "u" })}, 1, api.ErrForm},
		{[]api.Event{a, with(end(), func(e *api.Event) { e.Attrs = attrs(1) })}, 1, api.ErrForm},
		{[]api.Event{a, with(end(), func(e *api.Event) { e.Text = "t" })}, 1, api.ErrForm},
		{[]api.Event{a, start("b", at("y", ""), at("x", "")), end()}, 1, api.ErrForm},
		{[]api.Event{a, start("b", at("x", ""), at("x", ""))}, 1, api.ErrForm},
		{[]api.Event{start("a", at("xmlns", "u"))}, 0, api.ErrForm},
		{repeated(41, start("c")), 40, api.ErrLong},
		{repeated(50, start("c")), 40, api.ErrLong},
		{append(repeated(40, start("c")), start("c:c:c")), 40, api.ErrForm},
		{append(repeated(40, start("c")), text("t"), start("c")), 41, api.ErrLong},
		{append(repeated(40, start("c")), text("t"), end(), text("t")), 43, api.ErrForm},
		{append(repeated(40, start("c")), end(), b, end(), b, b), 44, api.ErrLong},
		{append([]api.Event{a}, repeated(300, b, end())...), 1 + 2*299, api.ErrLong},
		{slices.Concat([]api.Event{a}, repeated(299, b, end()), []api.Event{text("t"), text("u")}), 1 + 2*299, api.ErrLong},
		{slices.Concat([]api.Event{a}, repeated(299, b, end()), []api.Event{text("")}), 1 + 2*299, api.ErrForm},
		{slices.Concat([]api.Event{a}, repeated(299, b, end()), []api.Event{end(), text("t")}), 2 + 2*299, api.ErrForm},
		{slices.Concat([]api.Event{a}, repeated(299, b, end())), 1 + 2*299, api.ErrForm},
		{slices.Concat([]api.Event{a}, repeated(298, b, end()), []api.Event{text("t"), text("u")}), 2 + 2*298, api.ErrForm},
		{slices.Concat([]api.Event{a}, repeated(298, b, end()), []api.Event{start("b", at("x", ""))}), 1 + 2*298, api.ErrLong},
		{[]api.Event{start("a", attrs(300)...), text("")}, 0, api.ErrLong},
		{[]api.Event{start("a", attrs(299)...), text("t"), text("t")}, 1, api.ErrLong},
		{[]api.Event{start("a", attrs(299)...), text("")}, 1, api.ErrForm},
		{[]api.Event{start("a", append(attrs(300), at("x", ""))...)}, 0, api.ErrForm},
		{[]api.Event{{Kind: api.EvStart, Name: nm("a"), Attrs: make([]api.Attr, 1<<20)}}, 0, api.ErrForm},
	}
	for _, n := range noNames() {
		begin := api.Event{Kind: api.EvStart, Name: n}
		cases = append(cases, []struct {
			l     []api.Event
			place int
			want  api.Errno
		}{{[]api.Event{begin}, 0, api.ErrForm}, {[]api.Event{a, begin, end(), end()}, 1, api.ErrForm}, {[]api.Event{a, start("b", api.Attr{Name: n})}, 1, api.ErrForm}}...)
	}
	for _, s := range noTexts {
		cases = append(cases, []struct {
			l     []api.Event
			place int
			want  api.Errno
		}{{[]api.Event{a, text(s)}, 1, api.ErrForm}, {[]api.Event{start("a", at("x", s)), end()}, 0, api.ErrForm}}...)
	}
	for i, c := range cases {
		for _, l := range [][]api.Event{c.l, placed(c.l)} {
			n, place, e := tree.Build(l)
			if place != c.place {
				t.Errorf("%d: Build(%.300v): %d, want %d", i, l, place, c.place)
			}
			checkNode(t, n, e, api.Node{}, c.want, i, l)
		}
	}
}

// goesOn tells straight from the definition whether events of a document go on from l: whether they do with the ends that are missing.
func goesOn(l []api.Event) api.Errno {
	open := 0
	for i, e := range l {
		switch e.Kind {
		case api.EvStart:
			open++
			e.Name, e.Attrs = api.Name{}, nil
		case api.EvText:
			e.Text = ""
		case api.EvEnd:
			open--
		default:
			return api.ErrForm
		}
		if open <= 0 && i < len(l)-1 || open < 0 || i == 0 && open == 0 || e.Name != (api.Name{}) || len(e.Attrs) > 0 || e.Text != "" {
			return api.ErrForm
		}
	}
	n := treeOf(slices.Concat(l, repeated(open, end())))
	switch {
	case !isValid(n):
		return api.ErrForm
	case !isSmall(n):
		return api.ErrLong
	}
	return api.OK
}

// spoiledEvents returns l with something changed.
func spoiledEvents(r *rand.Rand, l []api.Event) []api.Event {
	l = slices.Clone(l)
	if len(l) == 0 {
		return []api.Event{text("t")}
	}
	i := r.IntN(len(l))
	switch r.IntN(8) {
	case 0:
		return slices.Delete(l, i, i+1)
	case 1:
		return slices.Insert(l, i, l[r.IntN(len(l))])
	case 2:
		return slices.Insert(l, i, one(r, text("t"), start("a"), end()))
	case 3:
		return l[:i]
	case 4:
		l[i].Kind = r.IntN(6) - 1
	case 5:
		l[i].Name = one(r, nm("a"), api.Name{}, one(r, noNames()...))
	case 6:
		l[i].Text = one(r, "", "t", one(r, noTexts...))
	case 7:
		l[i].Attrs = append(slices.Clone(l[i].Attrs), one(r, randomAttr(r), at("xmlns", ""), at("z:z", "\x00")))
	}
	return l
}

// P4.2: against the definition.
func TestBuildOfRandoms(t *testing.T) {
	seen := map[api.Errno]int{}
	randoms(t, 6000, func(r *rand.Rand) {
		n := randomDoc(r)
		switch r.IntN(12) {
		case 0:
			n = el("a", wide(270+r.IntN(30)), n)
		case 1:
			c := chain(37 + r.IntN(2))
			at := &c
			for len(at.Kids) > 0 {
				at = &at.Kids[0]
			}
			at.Kids = []api.Node{n}
			n = c
		}
		l := eventsOf(n)
		for range r.IntN(3) {
			l = spoiledEvents(r, l)
		}
		place := sort.Search(len(l), func(i int) bool { return goesOn(l[:i+1]) != api.OK })
		want := api.ErrForm
		if place < len(l) {
			want = goesOn(l[:place+1])
		} else if len(l) > 0 && count(l, api.EvStart) == count(l, api.EvEnd) {
			place, want = 0, api.OK
		}
		seen[want]++
		got, at, e := tree.Build(l)
		if at != place || e != want {
			t.Errorf("Build(%.1000v): %d, %d, want %d, %d", l, at, e, place, want)
		}
		if want == api.OK {
			checkNode(t, got, e, treeOf(l), api.OK, l)
		} else {
			checkNode(t, got, e, api.Node{}, want, l)
		}
	})
	for _, e := range []api.Errno{api.OK, api.ErrLong, api.ErrForm} {
		if seen[e] < 100 {
			t.Errorf("only %d lists with %d", seen[e], e)
		}
	}
}

// count returns how many events of l have this kind.
func count(l []api.Event, kind int) int {
	n := 0
	for _, e := range l {
		if e.Kind == kind {
			n++
		}
	}
	return n
}

// sameEvents reports whether a and b are the same events; no attributes may be nil or empty.
func sameEvents(a, b []api.Event) bool {
	return slices.EqualFunc(a, b, func(x, y api.Event) bool {
		return x.Kind == y.Kind && x.Name == y.Name && slices.Equal(x.Attrs, y.Attrs) && x.Text == y.Text && x.At == y.At
	})
}

// P4.2
func TestEvents(t *testing.T) {
	for _, c := range []struct {
		n    api.Node
		want []api.Event
	}{
		{el("a"), []api.Event{start("a"), end()}},
		{letterD(), []api.Event{start("a", at("x", "1")), text("t"), start("b"), end(), text("u"), end()}},
		{el("u:a", at("x", ""), at("v:x", "2"), el("b", el("c"), "t"), el("d")), []api.Event{start("u:a", at("x", ""), at("v:x", "2")), start("b"), start("c"), end(), text("t"), end(), start("d"), end(), end()}},
		{chain(40), slices.Concat(repeated(40, start("c")), repeated(40, end()))},
	} {
		if l, e := tree.Events(c.n); e != api.OK || !sameEvents(l, c.want) {
			t.Errorf("Events(%.300v): %v, %d", c.n, l, e)
		}
	}
	randoms(t, 2000, func(r *rand.Rand) {
		n := randomDoc(r)
		if l, e := tree.Events(n); e != api.OK || !sameEvents(l, eventsOf(n)) {
			t.Errorf("Events(%.1000v): %.1000v, %d", n, l, e)
		}
	})
}
