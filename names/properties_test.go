package names_test

import (
	"math/rand/v2"
	"slices"
	"testing"

	"gabarit/api"
	"gabarit/names"
)

// has, normal are what the package says of classes and names that it must not refuse.
func has(t *testing.T, c api.Class, n api.Name) bool {
	yes, e := names.Has(c, n)
	if e != api.OK {
		t.Errorf("Has(%s, %q): %d", show(c), n, e)
	}
	return yes
}

func normal(t *testing.T, c api.Class) api.Class {
	x, e := names.Normal(c)
	if e != api.OK {
		t.Errorf("Normal(%s): %d", show(c), e)
	}
	return x
}

// P1.7: normal classes are equal exactly if the sets are the same.
func TestOneNormalClass(t *testing.T) {
	all := universe()
	equal := 0
	randoms(t, 3000, func(r *rand.Rand) {
		a, b := randomClass(r, 2), randomClass(r, 2)
		alike := !slices.ContainsFunc(all, func(n api.Name) bool { return has(t, a, n) != has(t, b, n) })
		if alike {
			equal++
		}
		x, y := normal(t, a), normal(t, b)
		if same(x, y) != alike {
			t.Errorf("%s and %s: normal classes %s and %s", show(a), show(b), show(x), show(y))
		}
		for _, c := range []api.Class{x, every(every(a)), choice(a, a), choice(a, every(every())), every(choice(every(a), every(x)))} {
			if z := normal(t, c); !same(x, z) {
				t.Errorf("%s: %s, and as %s: %s", show(a), show(x), show(c), show(z))
			}
		}
	})
	if equal < 100 || equal > 2900 {
		t.Errorf("%d of the pairs are alike: this test says little", equal)
	}
}

// P1.7: each valid name has the In of exactly one cell.
func TestOneCell(t *testing.T) {
	all := universe()
	randoms(t, 1000, func(r *rand.Rand) {
		var l []api.Class
		for range r.IntN(6) {
			l = append(l, randomClass(r, 3))
		}
		cells, e := names.Cells(l)
		if e != api.OK {
			t.Errorf("Cells(%s): %d", showAll(l), e)
		}
		ins := func(n api.Name) []bool {
			var in []bool
			for _, c := range l {
				in = append(in, has(t, c, n))
			}
			return in
		}
		for _, n := range all {
			in, count := ins(n), 0
			for _, c := range cells {
				if slices.Equal(c.In, in) {
					count++
				}
			}
			if count != 1 {
				t.Errorf("Cells(%s): %q is in %d cells", showAll(l), n, count)
			}
		}
		for _, c := range cells {
			if !slices.Equal(c.In, ins(c.Witness)) {
				t.Errorf("Cells(%s): %q is not in its cell", showAll(l), c.Witness)
			}
		}
	})
}

// P1.8
func TestAgreement(t *testing.T) {
	all := universe()
	randoms(t, 2000, func(r *rand.Rand) {
		a, b := randomClass(r, 3), randomClass(r, 3)
		made := map[string]api.Class{}
		for _, p := range pairs {
			x, e := p.f(a, b)
			if e != api.OK {
				t.Errorf("%s(%s, %s): %d", p.name, show(a), show(b), e)
			}
			for _, n := range all {
				if has(t, x, n) != p.want(has(t, a, n), has(t, b, n)) {
					t.Errorf("%s(%s, %s): %s: wrong for %q", p.name, show(a), show(b), show(x), n)
				}
			}
			made[p.name] = x
		}
		noMeet, _ := names.Empty(made["Meet"])
		if common, e := names.Overlap(a, b); e != api.OK || common == noMeet {
			t.Errorf("Overlap(%s, %s): %v, %d, but Meet is %s", show(a), show(b), common, e, show(made["Meet"]))
		}
		noMinus, _ := names.Empty(made["Minus"])
		if within, e := names.Includes(b, a); e != api.OK || within != noMinus {
			t.Errorf("Includes(%s, %s): %v, %d, but Minus is %s", show(b), show(a), within, e, show(made["Minus"]))
		}
		empty, e := names.Empty(a)
		if e != api.OK || empty != same(normal(t, a), every(every())) {
			t.Errorf("Empty(%s): %v, %d", show(a), empty, e)
		}
		avoid := all[:r.IntN(len(all))]
		n, e := names.Witness(a, avoid)
		if e == api.OK && (!has(t, a, n) || slices.Contains(avoid, n)) {
			t.Errorf("Witness(%s, %q): %q", show(a), avoid, n)
		}
		if e == api.ErrNone && slices.ContainsFunc(all, func(n api.Name) bool { return has(t, a, n) && !slices.Contains(avoid, n) }) {
			t.Errorf("Witness(%s, %q): none", show(a), avoid)
		}
		if _, e := names.Witness(a, nil); (e == api.ErrNone) != empty {
			t.Errorf("Witness(%s): %d, Empty: %v", show(a), e, empty)
		}
	})
}
