package tree_test

import (
	"math/rand/v2"
	"reflect"
	"slices"
	"testing"

	"gabarit/api"
	"gabarit/tree"
)

// path is a path.
func path(l ...int) []int { return l }

// P4.4
func TestAt(t *testing.T) {
	d := letterD()
	deep := el("a", "s", el("b", at("x", "1"), el("c"), "t", el("d", el("e", "u"))), "v")
	for _, c := range []struct {
		n    api.Node
		path []int
		want api.Node
		e    api.Errno
	}{
		{d, nil, d, api.OK}, {d, path(), d, api.OK}, {d, path(0), tx("t"), api.OK}, {d, path(1), el("b"), api.OK}, {d, path(2), tx("u"), api.OK},
		{d, path(3), api.Node{}, api.ErrNone}, {d, path(-1), api.Node{}, api.ErrNone}, {d, path(1 << 62), api.Node{}, api.ErrNone}, {d, path(-1 << 62), api.Node{}, api.ErrNone},
		{d, path(0, 0), api.Node{}, api.ErrNone}, {d, path(1, 0), api.Node{}, api.ErrNone}, {d, path(3, 0), api.Node{}, api.ErrNone}, {d, path(-1, 0), api.Node{}, api.ErrNone}, {d, path(1, -1), api.Node{}, api.ErrNone},
		{deep, path(1), deep.Kids[1], api.OK}, {deep, path(1, 2, 0), el("e", "u"), api.OK}, {deep, path(1, 2, 0, 0), tx("u"), api.OK}, {deep, path(1, 2, 0, 0, 0), api.Node{}, api.ErrNone}, {deep, path(1, 3), api.Node{}, api.ErrNone}, {deep, path(2, 1), api.Node{}, api.ErrNone},
		{chain(40), make([]int, 39), el("c"), api.OK}, {chain(40), make([]int, 40), api.Node{}, api.ErrNone}, {chain(40), make([]int, 1<<20), api.Node{}, api.ErrNone},
	} {
		n, e := tree.At(c.n, c.path)
		checkNode(t, n, e, c.want, c.e, c.n, c.path)
	}
	randoms(t, 5000, func(r *rand.Rand) {
		n := randomDoc(r)
		path := randomPath(r, n)
		l := eventsOf(n)
		from, to, there, ok := place(l, path)
		want, wantE := api.Node{}, api.ErrNone
		if ok && there {
			want, wantE = nodeOf(l[from:to]), api.OK
		}
		got, e := tree.At(n, path)
		checkNode(t, got, e, want, wantE, n, path)
	})
}

// nodeOf returns the node with these events.
func nodeOf(l []api.Event) api.Node {
	if l[0].Kind == api.EvText {
		return tx(l[0].Text)
	}
	return treeOf(l)
}

// P4.4
func TestPaths(t *testing.T) {
	for _, c := range []struct {
		n    api.Node
		want [][]int
	}{
		{letterD(), [][]int{{}, {0}, {1}, {2}}},
		{el("a"), [][]int{{}}},
		{el("a", "t"), [][]int{{}, {0}}},
		{el("a", at("x", ""), el("b", el("c"), "t", el("d", "u")), "v", el("e")), [][]int{{}, {0}, {0, 0}, {0, 1}, {0, 2}, {0, 2, 0}, {1}, {2}}},
	} {
		if l, e := tree.Paths(c.n); e != api.OK || !samePaths(l, c.want) {
			t.Errorf("Paths(%v): %v, %d", c.n, l, e)
		}
	}
	if l, e := tree.Paths(wide(300)); e != api.OK || len(l) != 300 || !slices.Equal(l[299], path(298)) {
		t.Errorf("Paths of a wide one: %v, %d", l, e)
	}
	if l, e := tree.Paths(chain(40)); e != api.OK || len(l) != 40 || !slices.Equal(l[39], make([]int, 39)) {
		t.Errorf("Paths of a deep one: %v, %d", l, e)
	}
	randoms(t, 2000, func(r *rand.Rand) {
		n := randomDoc(r)
		l, e := tree.Paths(n)
		if e != api.OK || !samePaths(l, allPaths(n)) || !slices.IsSortedFunc(l, slices.Compare) {
			t.Errorf("Paths(%.1000v): %v, %d", n, l, e)
		}
	})
}

func samePaths(a, b [][]int) bool { return slices.EqualFunc(a, b, slices.Equal) }

// P4.4: each path leads to its node, and each node has a path.
func TestPathsLead(t *testing.T) {
	randoms(t, 1000, func(r *rand.Rand) {
		n := randomDoc(r)
		paths, _ := tree.Paths(n)
		var nodes []api.Node
		for _, path := range paths {
			at, e := tree.At(n, path)
			if e != api.OK {
				t.Errorf("At(%.1000v, %v): %d", n, path, e)
			}
			nodes = append(nodes, nils(at))
		}
		var want []api.Node
		var visit func(n api.Node)
		visit = func(n api.Node) {
			want = append(want, nils(n))
			for _, kid := range n.Kids {
				visit(kid)
			}
		}
		visit(n)
		if !reflect.DeepEqual(nodes, want) {
			t.Errorf("the nodes of %.1000v are %.1000v", n, nodes)
		}
	})
}
