package names_test

import (
	"math/rand/v2"
	"reflect"
	"slices"
	"strconv"
	"strings"
	"testing"

	"gabarit/api"
	"gabarit/names"
)

// results calls every function of the package with a and b, and returns what they answer, in order.
func results(a, b api.Class, n api.Name, avoid []api.Name) []any {
	var l []any
	add := func(x ...any) { l = append(l, x...) }
	add(names.Check(a))
	add(two(names.Has(a, n)))
	add(two(names.Normal(a)))
	add(two(names.Join(a, b)))
	add(two(names.Meet(a, b)))
	add(two(names.Minus(a, b)))
	add(two(names.Empty(a)))
	add(two(names.Includes(a, b)))
	add(two(names.Overlap(a, b)))
	add(two(names.Witness(a, avoid)))
	add(two(names.Cells([]api.Class{a, b})))
	add(names.Less(n, a.Name))
	return l
}

// two are two results of one call.
func two[A any](x A, e api.Errno) any { return []any{x, e} }

// R1, R2: for all arguments, every function returns; with an error, all other results are zero.
func TestAllArguments(t *testing.T) {
	w := strings.Repeat("w", 1000)
	odd := []api.Class{
		{}, {Kind: -1}, {Kind: 1 << 40}, bad, long, both, choice(), space(w), name(w, w), name("", ""),
		{Kind: api.ClAny, Except: []api.Class{{}, {}}}, {Kind: api.ClChoice, Args: []api.Class{{}}},
		choice(make([]api.Class, 100000)...), nested(100000, inAny), nested(100000, inChoice), every(), name("a", "x"),
	}
	odd = append(odd, selfish()...)
	for i, a := range odd {
		for k, b := range odd {
			for _, n := range []api.Name{{}, nm(w, w), nm("a", "x")} {
				results(a, b, n, []api.Name{n, n})
			}
			if names.Check(a) == api.OK && names.Check(b) == api.OK {
				continue
			}
			for _, p := range pairs {
				if x, e := p.f(a, b); e == api.OK || !reflect.DeepEqual(x, api.Class{}) {
					t.Errorf("%s of %d and %d: %d, and a class", p.name, i, k, e)
				}
			}
			if yes, e := names.Includes(a, b); yes || e == api.OK {
				t.Errorf("Includes of %d and %d: %v, %d", i, k, yes, e)
			}
			if yes, e := names.Overlap(a, b); yes || e == api.OK {
				t.Errorf("Overlap of %d and %d: %v, %d", i, k, yes, e)
			}
			if l, e := names.Cells([]api.Class{a, b}); len(l) != 0 || e == api.OK {
				t.Errorf("Cells of %d and %d: %d of them, %d", i, k, len(l), e)
			}
		}
	}
}

// R3: arguments are not changed.
func TestArgumentsStay(t *testing.T) {
	avoidAll := universe()
	randoms(t, 300, func(r *rand.Rand) {
		a, b := randomClass(r, 3), randomClass(r, 3)
		avoid := slices.Clone(avoidAll[:r.IntN(len(avoidAll))])
		r.Shuffle(len(avoid), func(i, k int) { avoid[i], avoid[k] = avoid[k], avoid[i] })
		wasA, wasB, wasAvoid := copied(a), copied(b), slices.Clone(avoid)
		results(a, b, nm("a", "x"), avoid)
		if !reflect.DeepEqual(a, wasA) || !reflect.DeepEqual(b, wasB) || !slices.Equal(avoid, wasAvoid) {
			t.Errorf("changed: %s and %s, now %s and %s", show(wasA), show(wasB), show(a), show(b))
		}
	})
}

// R3: results are new memory.
func TestResultsAreNew(t *testing.T) {
	randoms(t, 300, func(r *rand.Rand) {
		a, b := randomClass(r, 3), randomClass(r, 3)
		a, b = normal(t, a), normal(t, b)
		wasA, wasB := copied(a), copied(b)
		x, _ := names.Normal(a)
		y, _ := names.Join(a, b)
		z, _ := names.Meet(a, b)
		wasY, wasZ := copied(y), copied(z)
		spoil(x)
		if !same(a, wasA) || !same(y, wasY) {
			t.Errorf("Normal shares memory: %s", show(wasA))
		}
		spoil(z)
		if !same(a, wasA) || !same(b, wasB) || !same(y, wasY) {
			t.Errorf("Meet shares memory: %s and %s", show(wasA), show(wasB))
		}
		z, _ = names.Meet(a, b)
		spoil(a)
		spoil(b)
		if !same(y, wasY) || !same(z, wasZ) {
			t.Errorf("results share memory with arguments: %s and %s", show(wasA), show(wasB))
		}
	})
	c := every(choice(name("a", "x"), space("b", name("b", "x"))))
	x, _ := names.Minus(c, every(every()))
	spoil(x)
	if x, _ := names.Minus(c, every(every())); !same(x, c) {
		t.Errorf("Minus: %s after another result was overwritten", show(x))
	}
	l := []api.Class{name("a", "x"), space("a"), every()}
	cells, _ := names.Cells(l)
	for i := range cells {
		_ = append(cells[i].In, true, true, true)
		for k := range cells[i].In {
			cells[i].In[k] = i != 1
		}
	}
	if slices.Contains(cells[1].In, true) || slices.Contains(cells[2].In, false) {
		t.Errorf("cells share memory: %v", cells)
	}
	if again, _ := names.Cells(l); !sameCells(again, []cell{{nm("a", "x"), []int{0, 1, 2}}, {nm("a", "x1"), []int{1, 2}}, {nm("u", "x"), []int{2}}}, 3) {
		t.Errorf("Cells: %v after another result was overwritten", again)
	}
}

// emptied returns c with empty lists where it has none.
func emptied(c api.Class) api.Class {
	for _, l := range []*[]api.Class{&c.Except, &c.Args} {
		*l = append([]api.Class{}, *l...)
		for i := range *l {
			(*l)[i] = emptied((*l)[i])
		}
	}
	return c
}

// R4: a list may be nil or empty.
func TestNilOrEmpty(t *testing.T) {
	empty := api.Class{Kind: api.ClChoice, Args: []api.Class{}, Except: []api.Class{}}
	if e := names.Check(empty); e != api.ErrArg {
		t.Errorf("a choice of an empty list: %d", e)
	}
	randoms(t, 300, func(r *rand.Rand) {
		a, b := randomClass(r, 3), randomClass(r, 3)
		x := results(a, b, nm("a", "x"), nil)
		y := results(emptied(a), emptied(b), nm("a", "x"), []api.Name{})
		for i := range x {
			if !reflect.DeepEqual(x[i], y[i]) {
				t.Errorf("%s and %s: result %d is %v, with empty lists %v", show(a), show(b), i, x[i], y[i])
			}
		}
	})
}

// R6: results depend only on the arguments.
func TestSameAgain(t *testing.T) {
	randoms(t, 200, func(r *rand.Rand) {
		a, b := randomClass(r, 4), randomClass(r, 4)
		avoid := universe()[:r.IntN(20)]
		first := results(a, b, nm("b", "y"), avoid)
		results(b, a, nm("a", "x"), nil)
		for range 5 {
			if again := results(copied(a), copied(b), nm("b", "y"), slices.Clone(avoid)); !reflect.DeepEqual(first, again) {
				t.Errorf("%s and %s: %v, then %v", show(a), show(b), first, again)
			}
		}
		backwards := slices.Clone(avoid)
		slices.Reverse(backwards)
		n, e := names.Witness(a, avoid)
		if m, f := names.Witness(a, backwards); n != m || e != f {
			t.Errorf("Witness(%s): %q, %d; %q, %d with what is avoided the other way round", show(a), n, e, m, f)
		}
	})
}

// R7: inputs that are large, but not too large.
func TestLarge(t *testing.T) {
	var avoid []api.Name
	for i := range 200000 {
		avoid = append(avoid, nm("a", "x"+strconv.Itoa(i)))
	}
	if n, e := names.Witness(space("a"), append(avoid, nm("a", "x"))); n != nm("a", "x200000") || e != api.OK {
		t.Errorf("Witness: %q, %d", n, e)
	}
	var l []api.Class
	for i := range 100 {
		l = append(l, choice(manyNames("s"+strconv.Itoa(100+i), 20)...))
	}
	cells, e := names.Cells(l)
	if e != api.OK || len(cells) != 101 || cells[99].Witness != nm("s199", "n1000") || cells[100].Witness != nm("s100", "x") {
		t.Errorf("Cells: %d of them, %d", len(cells), e)
	}
}

// R8: fields that a kind does not use are zero in results.
func TestUnusedFields(t *testing.T) {
	randoms(t, 500, func(r *rand.Rand) {
		a, b := randomClass(r, 4), randomClass(r, 3)
		for _, p := range pairs {
			if x, e := p.f(a, b); e != api.OK || names.Check(x) != api.OK {
				t.Errorf("%s(%s, %s): %+v, %d", p.name, show(a), show(b), x, e)
			}
		}
		if x := normal(t, a); names.Check(x) != api.OK {
			t.Errorf("Normal(%s): %+v", show(a), x)
		}
	})
}
