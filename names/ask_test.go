package names_test

import (
	"math/rand/v2"
	"slices"
	"testing"

	"gabarit/api"
	"gabarit/names"
)

// P1.4
func TestEmptyIncludesOverlap(t *testing.T) {
	nothing := every(every())
	for _, c := range []struct {
		a, b                    api.Class
		empty, includes, common bool
	}{
		{every(), space("a"), false, true, true},
		{space("a"), every(), false, false, true},
		{space("a"), space("b"), false, false, false},
		{space("a"), space("a"), false, true, true},
		{space("a"), name("a", "x"), false, true, true},
		{name("a", "x"), space("a"), false, false, true},
		{name("a", "x"), name("a", "x"), false, true, true},
		{name("a", "x"), name("b", "x"), false, false, false},
		{nothing, name("a", "x"), true, false, false},
		{nothing, nothing, true, true, false},
		{name("a", "x"), nothing, false, true, false},
		{every(), nothing, false, true, false},
		{nothing, every(), true, false, false},
		{space("a", space("a")), name("a", "x"), true, false, false},
		{space("a", space("b")), name("a", "x"), false, true, true},
		{space("a", every()), space("a", space("a")), true, true, false},
		{every(name("a", "x")), name("a", "x"), false, false, false},
		{every(name("a", "x")), space("a"), false, false, true},
		{every(name("a", "x")), space("b"), false, true, true},
		{every(name("a", "x")), every(space("a")), false, true, true},
		{every(space("a")), every(name("a", "x")), false, false, true},
		{every(space("a")), space("a"), false, false, false},
		{space("a", name("a", "x")), choice(name("a", "x"), name("b", "x")), false, false, false},
		{choice(name("a", "x"), name("b", "x")), choice(name("b", "x"), name("a", "x")), false, true, true},
		{choice(space("a"), every(space("a"))), every(), false, true, true},
		{choice(space("a"), every(space("a", name("a", "x")))), every(), false, true, true},
		{choice(name("a", "y"), every(space("a"))), every(), false, false, true},
	} {
		empty, e := names.Empty(c.a)
		includes, f := names.Includes(c.a, c.b)
		common, g := names.Overlap(c.a, c.b)
		if empty != c.empty || includes != c.includes || common != c.common || e != api.OK || f != api.OK || g != api.OK {
			t.Errorf("%s and %s: empty %v, includes %v, overlap %v; %d, %d, %d", show(c.a), show(c.b), empty, includes, common, e, f, g)
		}
	}
	all := universe()
	randoms(t, 3000, func(r *rand.Rand) {
		a, b := randomClass(r, 3), randomClass(r, 3)
		empty, _ := names.Empty(a)
		includes, _ := names.Includes(a, b)
		common, _ := names.Overlap(a, b)
		some := func(f func(n api.Name) bool) bool { return slices.ContainsFunc(all, f) }
		if empty == some(func(n api.Name) bool { return contains(a, n) }) {
			t.Errorf("Empty(%s): %v", show(a), empty)
		}
		if includes == some(func(n api.Name) bool { return contains(b, n) && !contains(a, n) }) {
			t.Errorf("Includes(%s, %s): %v", show(a), show(b), includes)
		}
		if common != some(func(n api.Name) bool { return contains(b, n) && contains(a, n) }) {
			t.Errorf("Overlap(%s, %s): %v", show(a), show(b), common)
		}
	})
}

// P1.4: the errors of Check.
func TestAskErrors(t *testing.T) {
	for _, c := range []struct {
		c    api.Class
		want api.Errno
	}{{bad, api.ErrArg}, {long, api.ErrLong}, {both, api.ErrLong}, {choice(), api.ErrArg}, {api.Class{}, api.ErrArg}} {
		if yes, e := names.Empty(c.c); yes || e != c.want {
			t.Errorf("Empty(%.40s): %v, %d, want %d", show(c.c), yes, e, c.want)
		}
	}
	for _, c := range pairErrors {
		if yes, e := names.Includes(c.a, c.b); yes || e != c.want {
			t.Errorf("Includes(%.40s, %.40s): %v, %d, want %d", show(c.a), show(c.b), yes, e, c.want)
		}
		if yes, e := names.Overlap(c.a, c.b); yes || e != c.want {
			t.Errorf("Overlap(%.40s, %.40s): %v, %d, want %d", show(c.a), show(c.b), yes, e, c.want)
		}
	}
}

// P1.5
func TestWitness(t *testing.T) {
	x := nm("a", "x")
	toX11 := []api.Name{nm("a", "x"), nm("a", "x1"), nm("a", "x2"), nm("a", "x3"), nm("a", "x4"), nm("a", "x5"), nm("a", "x6"), nm("a", "x7"), nm("a", "x8"), nm("a", "x9"), nm("a", "x10")}
	for _, c := range []struct {
		c     api.Class
		avoid []api.Name
		want  api.Name
	}{
		{space("a", name("a", "x")), nil, nm("a", "x1")},
		{every(space("a")), nil, nm("u", "x")},
		{every(), nil, nm("u", "x")},
		{every(), []api.Name{nm("u", "x")}, nm("u", "x1")},
		{every(), []api.Name{nm("u", "x"), nm("u", "x2")}, nm("u", "x1")},
		{every(), []api.Name{nm("u", "x1"), nm("v", "x")}, nm("u", "x")},
		{every(space("u")), nil, nm("u1", "x")},
		{every(choice(space("u"), space("u1"))), nil, nm("u2", "x")},
		{every(choice(space("u1"), space("u2"))), nil, nm("u", "x")},
		{every(choice(space("u"), space("u2"))), nil, nm("u1", "x")},
		{every(space("u")), []api.Name{nm("u1", "x")}, nm("u1", "x1")},
		{every(choice(name("u", "x"), space("u"))), nil, nm("u1", "x")},
		{every(name("u", "x")), nil, nm("u", "x1")},
		{every(name("a", "x")), nil, nm("a", "x1")},
		{every(name("b", "x")), nil, nm("b", "x1")},
		{name("a", "y"), nil, nm("a", "y")},
		{space("a"), nil, x},
		{space("a"), []api.Name{x}, nm("a", "x1")},
		{space("a"), toX11, nm("a", "x11")},
		{space("a"), []api.Name{nm("b", "x"), nm("", "x")}, x},
		{space("a", name("b", "x")), nil, x},
		{space(""), nil, nm("", "x")},
		{choice(name("b", "y"), name("a", "z")), nil, nm("a", "z")},
		{choice(name("b", "y"), name("a", "z")), []api.Name{nm("a", "z")}, nm("b", "y")},
		{choice(space("a"), name("b", "y")), nil, nm("b", "y")},
		{choice(space("b"), space("a")), nil, x},
		{choice(space("b"), space("a")), []api.Name{x}, nm("a", "x1")},
		{choice(space("b"), every(space("b"))), nil, nm("b", "x")},
		{choice(space("a", name("a", "y")), name("c", "z")), nil, nm("c", "z")},
		{choice(space("a", name("a", "y")), name("c", "z")), []api.Name{nm("c", "z")}, x},
		{space("a", space("a", choice(name("a", "r"), name("a", "q")))), nil, nm("a", "q")},
		{space("a", choice(name("a", "x"), name("a", "x1"), name("a", "x3"))), []api.Name{nm("a", "x2")}, nm("a", "x4")},
		{name("a", "y"), []api.Name{{}, nm("a", ""), nm("b", "y")}, nm("a", "y")},
	} {
		if n, e := names.Witness(c.c, c.avoid); n != c.want || e != api.OK {
			t.Errorf("Witness(%s, %q): %q, %d, want %q", show(c.c), c.avoid, n, e, c.want)
		}
	}
	all := universe()
	randoms(t, 3000, func(r *rand.Rand) {
		c := randomClass(r, 3)
		var avoid []api.Name
		for range r.IntN(12) {
			avoid = append(avoid, all[r.IntN(len(all))])
		}
		want, found := api.Name{}, api.ErrNone
		for _, n := range candidates([]api.Class{c}, avoid) {
			if contains(c, n) && !slices.Contains(avoid, n) {
				want, found = n, api.OK
				break
			}
		}
		if n, e := names.Witness(c, avoid); n != want || e != found {
			t.Errorf("Witness(%s, %q): %q, %d, want %q, %d", show(c), avoid, n, e, want, found)
		}
	})
}

// P1.5: no candidate, and the errors of Check.
func TestWitnessErrors(t *testing.T) {
	x, y := nm("a", "x"), nm("a", "y")
	for _, c := range []struct {
		c     api.Class
		avoid []api.Name
		want  api.Errno
	}{
		{name("a", "x"), []api.Name{x}, api.ErrNone},
		{name("a", "x"), []api.Name{y, x, x}, api.ErrNone},
		{choice(name("a", "x"), name("a", "y")), []api.Name{y, x}, api.ErrNone},
		{every(every()), nil, api.ErrNone},
		{space("a", space("a")), nil, api.ErrNone},
		{every(every(name("a", "x"))), []api.Name{x}, api.ErrNone},
		{bad, nil, api.ErrArg},
		{bad, []api.Name{x}, api.ErrArg},
		{choice(), nil, api.ErrArg},
		{choice(name("a", "x"), bad), nil, api.ErrArg},
		{api.Class{}, nil, api.ErrArg},
		{long, nil, api.ErrLong},
		{both, nil, api.ErrLong},
	} {
		if n, e := names.Witness(c.c, c.avoid); n != (api.Name{}) || e != c.want {
			t.Errorf("Witness(%.40s, %q): %q, %d, want %d", show(c.c), c.avoid, n, e, c.want)
		}
	}
}

// cell is a cell by its witness and by the numbers of the classes that have it.
type cell struct {
	witness api.Name
	in      []int
}

// sameCells reports whether l, which divides names by n classes, are the cells that are wanted.
func sameCells(l []api.Cell, want []cell, n int) bool {
	return slices.EqualFunc(l, want, func(a api.Cell, b cell) bool {
		in := make([]bool, n)
		for _, i := range b.in {
			in[i] = true
		}
		return a.Witness == b.witness && slices.Equal(a.In, in)
	})
}

// P1.6
func TestCells(t *testing.T) {
	for i, c := range []struct {
		l    []api.Class
		want []cell
	}{
		{nil, []cell{{nm("u", "x"), nil}}},
		{[]api.Class{}, []cell{{nm("u", "x"), nil}}},
		{[]api.Class{every()}, []cell{{nm("u", "x"), []int{0}}}},
		{[]api.Class{every(every())}, []cell{{nm("u", "x"), nil}}},
		{[]api.Class{name("a", "x"), space("a")}, []cell{{nm("a", "x"), []int{0, 1}}, {nm("a", "x1"), []int{1}}, {nm("u", "x"), nil}}},
		{[]api.Class{space("a"), name("a", "x")}, []cell{{nm("a", "x"), []int{0, 1}}, {nm("a", "x1"), []int{0}}, {nm("u", "x"), nil}}},
		{[]api.Class{name("a", "z"), name("a", "y")}, []cell{{nm("a", "y"), []int{1}}, {nm("a", "z"), []int{0}}, {nm("a", "x"), nil}}},
		{[]api.Class{name("a", "y"), name("a", "y")}, []cell{{nm("a", "y"), []int{0, 1}}, {nm("a", "x"), nil}}},
		{[]api.Class{choice(name("b", "y"), name("a", "y"))}, []cell{{nm("a", "y"), []int{0}}, {nm("a", "x"), nil}}},
		{[]api.Class{every(name("a", "y"))}, []cell{{nm("a", "y"), nil}, {nm("a", "x"), []int{0}}}},
		{[]api.Class{space("b"), space("a")}, []cell{{nm("a", "x"), []int{1}}, {nm("b", "x"), []int{0}}, {nm("u", "x"), nil}}},
		{[]api.Class{space("b"), space("a"), every()}, []cell{{nm("a", "x"), []int{1, 2}}, {nm("b", "x"), []int{0, 2}}, {nm("u", "x"), []int{2}}}},
		{[]api.Class{space("u"), name("u", "x")}, []cell{{nm("u", "x"), []int{0, 1}}, {nm("u", "x1"), []int{0}}, {nm("u1", "x"), nil}}},
		{[]api.Class{choice(space("a"), every(space("a"))), name("a", "x")}, []cell{{nm("a", "x"), []int{0, 1}}, {nm("a", "x1"), []int{0}}}},
	} {
		if l, e := names.Cells(c.l); e != api.OK || !sameCells(l, c.want, len(c.l)) {
			t.Errorf("%d: Cells(%s): %v, %d", i, showAll(c.l), l, e)
		}
	}
	randoms(t, 1500, func(r *rand.Rand) {
		var l []api.Class
		for range r.IntN(5) {
			l = append(l, randomClass(r, 3))
		}
		var want []cell
		for _, n := range candidates(l, nil) {
			var in []int
			for i, c := range l {
				if contains(c, n) {
					in = append(in, i)
				}
			}
			if !slices.ContainsFunc(want, func(c cell) bool { return slices.Equal(c.in, in) }) {
				want = append(want, cell{n, in})
			}
		}
		if got, e := names.Cells(l); e != api.OK || !sameCells(got, want, len(l)) {
			t.Errorf("Cells(%s): %v, %d, want %v", showAll(l), got, e, want)
		}
	})
}

// P1.6: the errors, and as many classes as there may be.
func TestCellsLimits(t *testing.T) {
	hundred := manyNames("a", 100)
	tooMany := append(slices.Clone(hundred), every())
	tooManyBad := append([]api.Class{bad}, hundred...)
	for i, c := range []struct {
		l    []api.Class
		want api.Errno
	}{
		{tooMany, api.ErrLong},
		{tooManyBad, api.ErrLong},
		{[]api.Class{bad}, api.ErrArg},
		{[]api.Class{every(), bad}, api.ErrArg},
		{[]api.Class{every(), long}, api.ErrLong},
		{[]api.Class{bad, long}, api.ErrArg},
		{[]api.Class{long, bad}, api.ErrLong},
		{[]api.Class{every(), bad, long}, api.ErrArg},
		{[]api.Class{both}, api.ErrLong},
		{append(slices.Clone(hundred[:99]), bad), api.ErrArg},
		{append(slices.Clone(hundred[:99]), choice()), api.ErrArg},
	} {
		if l, e := names.Cells(c.l); len(l) != 0 || e != c.want {
			t.Errorf("%d: %d cells, %d, want %d", i, len(l), e, c.want)
		}
	}
	l, e := names.Cells(hundred)
	if e != api.OK || len(l) != 101 {
		t.Fatalf("Cells of 100 classes: %d cells, %d", len(l), e)
	}
	for i, c := range l[:100] {
		if c.Witness != hundred[i].Name || len(c.In) != 100 || !c.In[i] || slices.Index(c.In, true) != i {
			t.Errorf("cell %d: %v", i, c)
		}
	}
	if l[100].Witness != nm("a", "x") || slices.Contains(l[100].In, true) {
		t.Errorf("last cell: %v", l[100])
	}
}
