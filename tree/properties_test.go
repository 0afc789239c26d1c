package tree_test

import (
	"math/rand/v2"
	"slices"
	"strings"
	"testing"

	"gabarit/api"
	"gabarit/scan"
	"gabarit/tree"
)

// documents are all kinds of documents.
func documents() []api.Node {
	return slices.DeleteFunc(valid(), func(n api.Node) bool { return n.Kind != api.NdElement })
}

// P4.8
func checkRoundTrips(t *testing.T, n api.Node) {
	t.Helper()
	l, e := tree.Events(n)
	if e != api.OK {
		t.Errorf("Events(%.1000v): %d", n, e)
	}
	built, place, e := tree.Build(l)
	if !tree.Same(built, n) || place != 0 {
		t.Errorf("Build of Events of %.1000v at %d", n, place)
	}
	checkNode(t, built, e, n, api.OK, "Build of Events")
	s, e := tree.Print(n)
	if e != api.OK {
		t.Errorf("Print(%.1000v): %d", n, e)
	}
	parsed, place, e := tree.Parse(s)
	if len(s) > api.MaxText {
		if place != api.MaxText {
			t.Errorf("Parse of %d bytes: %d", len(s), place)
		}
		checkNode(t, parsed, e, api.Node{}, api.ErrLong, "Parse of Print")
		return
	}
	if !tree.Same(parsed, n) || place != 0 {
		t.Errorf("Parse of %.1000q at %d", s, place)
	}
	checkNode(t, parsed, e, n, api.OK, "Parse of Print")
	if again, e := tree.Print(parsed); again != s || e != api.OK {
		t.Errorf("Print of Parse of %.1000q: %.1000q", s, again)
	}
}

// P4.8: documents, and texts of 60000 bytes and one more.
func TestRoundTrips(t *testing.T) {
	for _, n := range documents() {
		checkRoundTrips(t, n)
	}
	checkRoundTrips(t, el("a", strings.Repeat("t", 60000-len("<a></a>"))))
	checkRoundTrips(t, el("a", strings.Repeat("t", 60001-len("<a></a>"))))
	randoms(t, 5000, func(r *rand.Rand) { checkRoundTrips(t, randomDoc(r)) })
}

// P4.8: Events of Build are the events, but for their places.
func TestEventsOfBuild(t *testing.T) {
	randoms(t, 3000, func(r *rand.Rand) {
		s := textOf(randomDoc(r))
		events, _, e := scan.Scan(s)
		if e != api.OK {
			t.Fatalf("Scan(%q): %d", s, e)
		}
		n, _, e := tree.Build(events)
		again, f := tree.Events(n)
		for i := range events {
			events[i].At = 0
		}
		if e != api.OK || f != api.OK || !sameEvents(again, events) {
			t.Errorf("%q: %v, want %v", s, again, events)
		}
	})
}

// P4.9: an element that is inserted and deleted again.
func TestInsertAndDelete(t *testing.T) {
	randoms(t, 5000, func(r *rand.Rand) {
		n := randomDoc(r)
		path := one(r, allPaths(n)...)
		if at, _ := tree.At(n, path); at.Kind == api.NdElement {
			path = append(path, r.IntN(len(at.Kids)+1))
		}
		if len(path) == 0 {
			return
		}
		more, e := tree.Insert(n, path, randomElement(r, 1))
		if e != api.OK {
			t.Errorf("Insert into %.1000v at %v: %d", n, path, e)
		}
		less, e := tree.Delete(more, path)
		checkNode(t, less, e, n, api.OK, "Delete of Insert", path)
	})
}

// P4.9: the results of all edits are documents.
func TestEditsMakeDocuments(t *testing.T) {
	made := 0
	randoms(t, 200, func(r *rand.Rand) {
		n := randomDoc(r)
		for range 100 {
			next, e := randomEdit(r, n)
			if e != api.OK {
				continue
			}
			made++
			if wrong := notDocument(next); wrong != api.OK || tree.Check(next) != api.OK {
				t.Errorf("%.1000v became %.1000v: %d", n, next, wrong)
				return
			}
			n = next
		}
	})
	if made < 5000 {
		t.Errorf("only %d edits", made)
	}
}

// randomEdit is n with an edit.
func randomEdit(r *rand.Rand, n api.Node) (api.Node, api.Errno) {
	path := randomPath(r, n)
	switch r.IntN(6) {
	case 0, 1:
		return tree.Insert(n, path, one(r, tx(randomText(r)), randomElement(r, 1)))
	case 2:
		return tree.Delete(n, path)
	case 3:
		return tree.Rename(n, path, randomName(r))
	case 4:
		return tree.SetText(n, path, randomText(r))
	}
	if at, e := tree.At(n, path); e == api.OK && len(at.Attrs) > 0 && r.IntN(2) == 0 {
		return tree.DropAttr(n, path, one(r, at.Attrs...).Name)
	}
	return tree.SetAttr(n, path, randomAttr(r))
}
