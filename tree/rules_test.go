package tree_test

import (
	"math/rand/v2"
	"reflect"
	"slices"
	"strings"
	"testing"

	"gabarit/api"
	"gabarit/tree"
)

// arguments are those of the functions of the package.
type arguments struct {
	n    api.Node
	path []int
	x    api.Node
	name api.Name
	text string
	a    api.Attr
}

// edits are the functions that return a document with an edit.
var edits = []struct {
	what string
	f    func(g arguments) (api.Node, api.Errno)
}{
	{"Insert", func(g arguments) (api.Node, api.Errno) { return tree.Insert(g.n, g.path, g.x) }},
	{"Delete", func(g arguments) (api.Node, api.Errno) { return tree.Delete(g.n, g.path) }},
	{"Rename", func(g arguments) (api.Node, api.Errno) { return tree.Rename(g.n, g.path, g.name) }},
	{"SetText", func(g arguments) (api.Node, api.Errno) { return tree.SetText(g.n, g.path, g.text) }},
	{"SetAttr", func(g arguments) (api.Node, api.Errno) { return tree.SetAttr(g.n, g.path, g.a) }},
	{"DropAttr", func(g arguments) (api.Node, api.Errno) { return tree.DropAttr(g.n, g.path, g.name) }},
}

// asks are all functions that return ErrLong, then ErrArg, if n is no document, with what they return.
var asks = append([]ask{
	{"Events", func(g arguments) (any, api.Errno) { l, e := tree.Events(g.n); return empty(l), e }},
	{"Print", func(g arguments) (any, api.Errno) { s, e := tree.Print(g.n); return s, e }},
	{"At", func(g arguments) (any, api.Errno) { n, e := tree.At(g.n, g.path); return nils(n), e }},
	{"Paths", func(g arguments) (any, api.Errno) { l, e := tree.Paths(g.n); return empty(l), e }},
}, asksOfEdits()...)

type ask struct {
	what string
	f    func(g arguments) (any, api.Errno)
}

func asksOfEdits() []ask {
	var l []ask
	for _, edit := range edits {
		l = append(l, ask{edit.what, func(g arguments) (any, api.Errno) { n, e := edit.f(g); return nils(n), e }})
	}
	return l
}

// empty returns l, which is nil if it is empty.
func empty[A any](l []A) []A { return append([]A(nil), l...) }

// good are arguments with which nothing but n may be wrong, and bad some with which much else is wrong.
func good(n api.Node) arguments {
	return arguments{n: n, path: path(0), x: el("c"), name: nm("x"), text: "t", a: at("x", "1")}
}

func bad(n api.Node) arguments {
	return arguments{n: n, x: el("c", "", ""), text: "\x00"}
}

// P4.1, R2: all functions return the error of n first, and nothing with it.
func TestNoDocument(t *testing.T) {
	for _, f := range asks {
		check := func(n api.Node, want api.Errno) {
			t.Helper()
			for _, g := range []arguments{good(n), bad(n)} {
				x, e := f.f(g)
				if e != want || !reflect.ValueOf(x).IsZero() {
					t.Errorf("%s(%.300v): %d, want %d; %.300v", f.what, n, e, want, x)
				}
			}
		}
		for _, n := range large() {
			check(n, api.ErrLong)
		}
		for _, n := range append(notValid(), tx("t"), tx(" "), tx(strings.Repeat("t", 100000))) {
			check(n, api.ErrArg)
		}
	}
}

// results calls every function of the package, and returns what they answer, in order.
func results(g arguments, l []api.Event) []any {
	var all []any
	add := func(x ...any) { all = append(all, x) }
	add(tree.Check(g.n))
	size, e := tree.Size(g.n)
	add(size, e)
	add(tree.Same(g.n, g.x), tree.Same(g.n, g.n))
	n, i, e := tree.Build(l)
	add(nils(n), i, e)
	n, i, e = tree.Parse(g.text)
	add(nils(n), i, e)
	for _, f := range asks {
		x, e := f.f(g)
		add(x, e)
	}
	return all
}

// R1: for all arguments, every function returns.
func TestAllArguments(t *testing.T) {
	nodes := slices.Concat(large(), notValid()[:60], documents())
	paths := [][]int{nil, {}, {0}, {1}, {-1}, {0, 0}, {1 << 62, -1 << 63}, make([]int, 100000)}
	texts := []string{"", "t", "\xff", "<a>", strings.Repeat("<a>", 30000)}
	for i, n := range nodes {
		x := nodes[(i+7)%len(nodes)]
		for k, path := range paths {
			s := texts[(i+k)%len(texts)]
			name := api.Name{Space: s, Local: texts[k%len(texts)]}
			results(arguments{n, path, x, name, s, api.Attr{Name: name, Value: s}}, []api.Event{start("a"), {Kind: k - 3, Name: name, Text: s}})
		}
	}
	randoms(t, 3000, func(r *rand.Rand) {
		g, l := randomArguments(r)
		for range 3 {
			g.n, g.x, l = spoiled(r, g.n), spoiled(r, g.x), spoiledEvents(r, l)
		}
		results(g, l)
	})
}

// randomArguments are arguments that are mostly valid, and the events of a document.
func randomArguments(r *rand.Rand) (arguments, []api.Event) {
	n := randomDoc(r)
	path, a := randomPath(r, n), randomAttr(r)
	name := a.Name
	if at, e := tree.At(n, path); e == api.OK && len(at.Attrs) > 0 {
		name = one(r, at.Attrs...).Name
	}
	return arguments{n, path, one(r, tx(randomText(r)), randomDoc(r)), name, randomText(r), a}, eventsOf(n)
}

// copied returns g and l in new memory.
func copied(g arguments, l []api.Event) (arguments, []api.Event) {
	g.n, g.x, g.path, l = nils(g.n), nils(g.x), slices.Clone(g.path), slices.Clone(l)
	for i := range l {
		l[i].Attrs = slices.Clone(l[i].Attrs)
	}
	return g, l
}

// R3: arguments are not changed.
func TestArgumentsStay(t *testing.T) {
	randoms(t, 2000, func(r *rand.Rand) {
		g, l := randomArguments(r)
		if r.IntN(4) == 0 {
			g.n = spoiled(r, g.n)
		}
		g, l = copied(g, l)
		was, wasL := copied(g, l)
		results(g, l)
		if !reflect.DeepEqual(g, was) || !reflect.DeepEqual(l, wasL) {
			t.Errorf("changed: %.1000v, now %.1000v", was, g)
		}
	})
}

// spoil overwrites all memory of n, also behind its lists.
func spoil(n api.Node) {
	for _, kid := range n.Kids {
		spoil(kid)
	}
	kids, attrs := n.Kids[:cap(n.Kids)], n.Attrs[:cap(n.Attrs)]
	for i := range kids {
		kids[i] = api.Node{Kind: 9}
	}
	for i := range attrs {
		attrs[i] = at("spoiled", "")
	}
}

// R3: results share no memory with arguments.
func TestResultsAreNew(t *testing.T) {
	for _, edit := range edits {
		done := 0
		randoms(t, 3000, func(r *rand.Rand) {
			g, _ := randomArguments(r)
			g, _ = copied(g, nil)
			was, _ := copied(g, nil)
			n, e := edit.f(g)
			if e != api.OK {
				return
			}
			done++
			kept := nils(n)
			spoil(g.n)
			spoil(g.x)
			if !equal(n, kept) {
				t.Errorf("%s shares memory: %.1000v", edit.what, was)
			}
			g, _ = copied(was, nil)
			n, _ = edit.f(g)
			spoil(n)
			if !equal(g.n, was.n) || !equal(g.x, was.x) {
				t.Errorf("%s gives memory away: %.1000v", edit.what, was)
			}
		})
		if done < 50 {
			t.Errorf("%s: only %d times", edit.what, done)
		}
	}
	randoms(t, 1000, func(r *rand.Rand) {
		g, l := randomArguments(r)
		g, l = copied(g, l)
		was, wasL := copied(g, l)
		built, _, _ := tree.Build(l)
		at, _ := tree.At(g.n, nil)
		events, _ := tree.Events(g.n)
		spoil(built)
		spoil(at)
		for i := range events {
			for k := range events[i].Attrs {
				events[i].Attrs[k].Value = "spoiled"
			}
		}
		if !equal(g.n, was.n) || !sameEvents(l, wasL) {
			t.Errorf("memory of %.1000v is given away", was.n)
		}
	})
}

// R3: the parts of a result share no memory with each other.
func TestPartsAreApart(t *testing.T) {
	n := el("a", at("x", "1"), el("b", at("x", "1"), el("c"), "t"), el("b", at("x", "1"), "t"))
	paths, _ := tree.Paths(n)
	want := slices.Clone(paths)
	for i := range paths {
		want[i] = slices.Clone(paths[i])
		_ = append(paths[i], 7, 7, 7, 7)
	}
	if !samePaths(paths, want) {
		t.Errorf("paths share memory: %v", paths)
	}
	for i := range paths {
		for k := range paths[i] {
			paths[i][k] += 10 * (i + 1)
		}
	}
	for i := range paths {
		for k := range paths[i] {
			if paths[i][k] != want[i][k]+10*(i+1) {
				t.Errorf("paths share memory: %v", paths)
			}
		}
	}
	x := el("k", at("x", "1"), "t")
	n, _ = tree.Insert(n, path(0), x)
	n, _ = tree.Insert(n, path(0), x)
	n.Kids[0].Attrs[0].Value, n.Kids[0].Kids[0].Text = "2", "u"
	if !equal(n.Kids[1], x) || !equal(x, el("k", at("x", "1"), "t")) {
		t.Errorf("kids share memory: %v", n)
	}
}

// withLists returns the arguments with what f makes of lists in nodes.
func withLists(g arguments, l []api.Event, f func(n api.Node) api.Node, list []api.Attr) (arguments, []api.Event) {
	g.n, g.x = f(g.n), f(g.x)
	l = slices.Clone(l)
	for i := range l {
		if len(l[i].Attrs) == 0 {
			l[i].Attrs = list
		}
	}
	return g, l
}

// R4: a list may be nil or empty.
func TestNilOrEmpty(t *testing.T) {
	randoms(t, 1000, func(r *rand.Rand) {
		g, l := randomArguments(r)
		if r.IntN(4) == 0 {
			g.n = spoiled(r, g.n)
		}
		if len(g.path) == 0 {
			g.path = nil
		}
		was := results(withLists(g, l, nils, nil))
		if g.path == nil {
			g.path = []int{}
		}
		if now := results(withLists(g, l, emptied, []api.Attr{})); !equalResults(was, now) {
			t.Errorf("%.1000v: %.1000v, with empty lists %.1000v", g, was, now)
		}
	})
}

// equalResults reports whether a and b are equal, where no list may be nil or empty.
func equalResults(a, b []any) bool {
	return slices.EqualFunc(a, b, func(x, y any) bool { return equalValues(reflect.ValueOf(x), reflect.ValueOf(y)) })
}

func equalValues(x, y reflect.Value) bool {
	if x.Kind() == reflect.Interface && y.Kind() == reflect.Interface {
		return equalValues(x.Elem(), y.Elem())
	}
	if x.Kind() != y.Kind() {
		return false
	}
	switch x.Kind() {
	case reflect.Slice:
		for i := range min(x.Len(), y.Len()) {
			if !equalValues(x.Index(i), y.Index(i)) {
				return false
			}
		}
		return x.Len() == y.Len()
	case reflect.Struct:
		for i := range x.NumField() {
			if !equalValues(x.Field(i), y.Field(i)) {
				return false
			}
		}
		return true
	}
	return reflect.DeepEqual(x.Interface(), y.Interface())
}

// R6: results depend only on the arguments.
func TestSameAgain(t *testing.T) {
	randoms(t, 500, func(r *rand.Rand) {
		g, l := randomArguments(r)
		first := results(g, l)
		other, otherL := randomArguments(r)
		results(other, otherL)
		for range 3 {
			if again := results(copied(g, l)); !equalResults(first, again) {
				t.Errorf("%.1000v: %.1000v, then %.1000v", g, first, again)
			}
		}
	})
}

// R7: inputs that are large, but not too large.
func TestLarge(t *testing.T) {
	s := strings.Repeat("é<", 1<<19)
	n := el("a", at("x", s), s, el("b"), s)
	for _, f := range asks {
		g := good(n)
		g.path, g.text = path(1), s
		if f.what == "SetText" {
			g.path = path(0)
		}
		want := api.OK
		if f.what == "DropAttr" {
			want = api.ErrNone
		}
		if _, e := f.f(g); e != want {
			t.Errorf("%s: %d", f.what, e)
		}
	}
	joined, e := tree.Delete(n, path(1))
	checkNode(t, joined, e, el("a", at("x", s), s+s), api.OK, "Delete")
	if _, place, e := tree.Build(repeated(1<<20, start("a"))); place != 40 || e != api.ErrLong {
		t.Errorf("Build: %d, %d", place, e)
	}
	if _, place, e := tree.Parse(strings.Repeat("<a>", 1<<20)); place != 120 || e != api.ErrLong {
		t.Errorf("Parse: %d, %d", place, e)
	}
}

// R8: fields that a kind does not use are zero in results.
func TestUnusedFields(t *testing.T) {
	randoms(t, 2000, func(r *rand.Rand) {
		g, l := randomArguments(r)
		l = placed(l)
		built, _, _ := tree.Build(l)
		nodes := []api.Node{built}
		if at, e := tree.At(g.n, g.path); e == api.OK {
			nodes = append(nodes, at)
		}
		for _, n := range nodes {
			if e := wrong(n); e != api.OK {
				t.Errorf("%.1000v: %d", n, e)
			}
		}
		events, _ := tree.Events(g.n)
		for _, e := range events {
			if e.At != 0 || e.Kind != api.EvText && e.Text != "" || e.Kind != api.EvStart && (e.Name != (api.Name{}) || len(e.Attrs) > 0) {
				t.Errorf("an event of %.1000v: %v", g.n, e)
			}
		}
	})
}
