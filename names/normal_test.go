package names_test

import (
	"math/rand/v2"
	"slices"
	"strconv"
	"strings"
	"testing"

	"gabarit/api"
	"gabarit/names"
)

// pair is a function that makes a class of two: want says whether a name is in it that is in the first one, or in the second one.
type pair struct {
	name string
	f    func(a, b api.Class) (api.Class, api.Errno)
	want func(inA, inB bool) bool
}

var pairs = []pair{
	{"Join", names.Join, func(inA, inB bool) bool { return inA || inB }},
	{"Meet", names.Meet, func(inA, inB bool) bool { return inA && inB }},
	{"Minus", names.Minus, func(inA, inB bool) bool { return inA && !inB }},
}

// P1.3
func TestNormal(t *testing.T) {
	for _, c := range []struct{ c, want api.Class }{
		{choice(name("a", "x"), space("a")), space("a")},
		{choice(name("a", "x"), name("b", "y"), name("a", "b")), choice(name("a", "b"), name("a", "x"), name("b", "y"))},
		{name("a", "x"), name("a", "x")},
		{choice(name("a", "x")), name("a", "x")},
		{choice(choice(name("a", "x")), name("a", "x")), name("a", "x")},
		{space("a"), space("a")},
		{space(""), space("")},
		{every(), every()},
		{every(every()), every(every())},
		{every(every(every())), every()},
		{every(every(space("a"))), space("a")},
		{every(every(name("a", "x"))), name("a", "x")},
		{space("a", space("a")), every(every())},
		{space("a", every()), every(every())},
		{space("a", name("b", "x")), space("a")},
		{space("a", every(name("a", "x"))), name("a", "x")},
		{space("a", space("a", choice(name("a", "y"), name("a", "x")))), choice(name("a", "x"), name("a", "y"))},
		{space("a", choice(name("a", "y"), name("a", "x"), name("b", "z"))), space("a", choice(name("a", "x"), name("a", "y")))},
		{space("a", choice(name("a", "x"), name("a", "x"))), space("a", name("a", "x"))},
		{every(name("a", "x")), every(name("a", "x"))},
		{every(choice(name("b", "x"), name("a", "x"))), every(choice(name("a", "x"), name("b", "x")))},
		{every(choice(name("a", "x"), space("a"))), every(space("a"))},
		{every(space("a", name("a", "x"))), every(space("a", name("a", "x")))},
		{choice(every(space("a")), space("a", name("a", "x"))), every(name("a", "x"))},
		{choice(every(space("a")), space("a")), every()},
		{choice(space("c"), space(""), space("b")), choice(space(""), space("b"), space("c"))},
		{choice(name("c", "x"), space("b"), name("a", "x")), choice(name("a", "x"), space("b"), name("c", "x"))},
		{choice(name("b", "A"), name("a", "z"), space("aa", name("aa", "x"))), choice(name("a", "z"), space("aa", name("aa", "x")), name("b", "A"))},
		{choice(name("a", "é"), name("a", "Z"), name("a", "aa"), name("a", "a")), choice(name("a", "Z"), name("a", "a"), name("a", "aa"), name("a", "é"))},
		{every(choice(name("b", "y"), space("a", choice(name("a", "y"), name("a", "x"))), name("b", "x"))), every(choice(space("a", choice(name("a", "x"), name("a", "y"))), name("b", "x"), name("b", "y")))},
		{choice(space("u", name("u", "x")), space("u1")), choice(space("u", name("u", "x")), space("u1"))},
		{choice(name("a", "x"), name("a", "x1"), name("a", "x2")), choice(name("a", "x"), name("a", "x1"), name("a", "x2"))},
	} {
		if x, e := names.Normal(c.c); e != api.OK || !same(x, c.want) {
			t.Errorf("Normal(%s): %s, %d, want %s", show(c.c), show(x), e, show(c.want))
		}
	}
}

// P1.3
func TestJoinMeetMinus(t *testing.T) {
	join, meet, minus := pairs[0], pairs[1], pairs[2]
	for _, c := range []struct {
		f          pair
		a, b, want api.Class
	}{
		{minus, every(), space("a"), every(space("a"))},
		{minus, space("a"), name("a", "x"), space("a", name("a", "x"))},
		{minus, name("a", "x"), every(), every(every())},
		{minus, name("a", "x"), name("a", "y"), name("a", "x")},
		{minus, space("a"), every(name("a", "x")), name("a", "x")},
		{minus, every(name("a", "x")), every(space("a")), space("a", name("a", "x"))},
		{minus, every(), every(), every(every())},
		{minus, every(name("a", "x")), name("a", "y"), every(choice(name("a", "x"), name("a", "y")))},
		{meet, every(space("a")), choice(name("a", "x"), name("b", "y")), name("b", "y")},
		{meet, every(name("a", "x")), every(name("a", "y")), every(choice(name("a", "x"), name("a", "y")))},
		{meet, space("a"), space("b"), every(every())},
		{meet, space("a"), every(), space("a")},
		{meet, space("a", name("a", "x")), space("a", name("a", "y")), space("a", choice(name("a", "x"), name("a", "y")))},
		{join, every(space("a")), name("a", "x"), every(space("a", name("a", "x")))},
		{join, space("b"), space("a"), choice(space("a"), space("b"))},
		{join, space("a", name("a", "x")), name("a", "x"), space("a")},
		{join, every(space("a")), space("a"), every()},
		{join, every(every()), every(every()), every(every())},
		{join, name("b", "x"), name("a", "x"), choice(name("a", "x"), name("b", "x"))},
	} {
		if x, e := c.f.f(c.a, c.b); e != api.OK || !same(x, c.want) {
			t.Errorf("%s(%s, %s): %s, %d, want %s", c.f.name, show(c.a), show(c.b), show(x), e, show(c.want))
		}
	}
}

// twoOfEach is all names but those of that many spaces, of which two names each are in it all the same.
func twoOfEach(spaces int) (except, but []api.Class) {
	for i := range spaces {
		s := "s" + strconv.Itoa(100+i)
		except = append(except, space(s))
		but = append(but, name(s, "x"), name(s, "y"))
	}
	return except, but
}

// P1.3: a normal class that is not small.
func TestNormalLong(t *testing.T) {
	except, but := twoOfEach(24)
	but = append(but, name("t1", "x"))
	with := func(more ...api.Class) api.Class {
		return choice(append(slices.Clone(but), every(choice(append(slices.Clone(except), more...)...)))...)
	}
	fits, tooLong := with(space("t1")), with(space("t1"), space("t2"))
	if x, e := names.Normal(fits); e != api.OK || len(x.Except) != 1 || len(x.Except[0].Args) != 25 {
		t.Errorf("Normal of 100 classes: %s, %d", show(x), e)
	}
	if e := names.Check(tooLong); e != api.OK {
		t.Errorf("Check of a class whose normal class is not small: %d", e)
	}
	if x, e := names.Normal(tooLong); e != api.ErrLong || !same(x, api.Class{}) {
		t.Errorf("Normal of 101 classes: %s, %d", show(x), e)
	}
	some := func(space string, n int) api.Class { return choice(manyNames(space, n)...) }
	for i, c := range []struct {
		f    func(a, b api.Class) (api.Class, api.Errno)
		a, b api.Class
		want api.Errno
	}{
		{names.Join, some("a", 50), some("b", 49), api.OK},
		{names.Join, some("a", 50), some("b", 50), api.ErrLong},
		{names.Join, some("a", 99), some("a", 98), api.OK},
		{names.Meet, every(some("a", 49)), every(some("b", 49)), api.OK},
		{names.Meet, every(some("a", 49)), every(some("b", 50)), api.ErrLong},
		{names.Meet, every(some("a", 98)), space("a"), api.OK},
		{names.Minus, every(some("a", 49)), some("b", 49), api.OK},
		{names.Minus, every(some("a", 49)), some("b", 50), api.ErrLong},
		{names.Minus, every(), some("b", 98), api.OK},
		{names.Minus, every(), some("b", 99), api.ErrLong},
		{names.Minus, space("b"), some("b", 99), api.ErrLong},
		{names.Minus, space("c"), some("b", 99), api.OK},
	} {
		x, e := c.f(c.a, c.b)
		if e != c.want || e != api.OK && !same(x, api.Class{}) {
			t.Errorf("%d: %d, want %d; %.40s", i, e, c.want, show(x))
		}
	}
}

// P1.3: the error of Check, of the first class before that of the second one.
func TestNormalErrors(t *testing.T) {
	for _, c := range []struct {
		c    api.Class
		want api.Errno
	}{{bad, api.ErrArg}, {long, api.ErrLong}, {both, api.ErrLong}, {choice(), api.ErrArg}, {every(bad), api.ErrArg}, {api.Class{}, api.ErrArg}} {
		if x, e := names.Normal(c.c); e != c.want || !same(x, api.Class{}) {
			t.Errorf("Normal(%.40s): %.40s, %d, want %d", show(c.c), show(x), e, c.want)
		}
	}
	for _, p := range pairs {
		for _, c := range pairErrors {
			if x, e := p.f(c.a, c.b); e != c.want || !same(x, api.Class{}) {
				t.Errorf("%s(%.40s, %.40s): %.40s, %d, want %d", p.name, show(c.a), show(c.b), show(x), e, c.want)
			}
		}
	}
}

// pairErrors are the errors of functions of two classes.
var pairErrors = []struct {
	a, b api.Class
	want api.Errno
}{
	{bad, every(), api.ErrArg},
	{every(), bad, api.ErrArg},
	{every(every()), bad, api.ErrArg},
	{long, every(), api.ErrLong},
	{every(), long, api.ErrLong},
	{every(every()), long, api.ErrLong},
	{bad, long, api.ErrArg},
	{long, bad, api.ErrLong},
	{bad, both, api.ErrArg},
	{both, bad, api.ErrLong},
	{bad, bad, api.ErrArg},
	{choice(), every(), api.ErrArg},
	{every(), api.Class{}, api.ErrArg},
}

// isOdd reports whether c is made as the odd classes of a set are, put together.
func isOdd(c api.Class) bool {
	l := []api.Class{c}
	if c.Kind == api.ClChoice {
		l = c.Args
		if len(l) < 2 {
			return false
		}
	}
	where := func(c api.Class) string {
		if c.Kind == api.ClName {
			return c.Name.Space
		}
		return c.Space
	}
	for i, x := range l {
		switch {
		case x.Kind == api.ClSpace:
			if len(x.Except) > 0 && !areOddNames(x.Except[0], x.Space) {
				return false
			}
		case x.Kind != api.ClName:
			return false
		}
		if i == 0 {
			continue
		}
		order := strings.Compare(where(l[i-1]), where(x))
		names := l[i-1].Kind == api.ClName && x.Kind == api.ClName
		if order > 0 || order == 0 && !(names && l[i-1].Name.Local < x.Name.Local) {
			return false
		}
	}
	return true
}

// areOddNames reports whether c is made of names of that space, as an except is.
func areOddNames(c api.Class, space string) bool {
	if !isOdd(c) {
		return false
	}
	isName := func(c api.Class) bool { return c.Kind == api.ClName && c.Name.Space == space }
	return isName(c) || c.Kind == api.ClChoice && !slices.ContainsFunc(c.Args, func(c api.Class) bool { return !isName(c) })
}

// isNormal reports whether c is made as normal classes are.
func isNormal(c api.Class) bool {
	if c.Kind != api.ClAny {
		return isOdd(c)
	}
	return len(c.Except) == 0 || same(c.Except[0], every()) || isOdd(c.Except[0])
}

// P1.3: what is returned is made as a normal class is, and has the names that it should have. (There is only one such class.)
func TestNormalClasses(t *testing.T) {
	all := universe()
	verify := func(what string, x api.Class, e api.Errno, want func(n api.Name) bool) {
		if e != api.OK || names.Check(x) != api.OK || !isNormal(x) {
			t.Errorf("%s: no normal class: %s, %d", what, show(x), e)
		}
		for _, n := range all {
			if contains(x, n) != want(n) {
				t.Errorf("%s: %s: wrong for %q", what, show(x), n)
			}
		}
	}
	randoms(t, 3000, func(r *rand.Rand) {
		a, b := randomClass(r, 4), randomClass(r, 3)
		x, e := names.Normal(a)
		verify("Normal "+show(a), x, e, func(n api.Name) bool { return contains(a, n) })
		for _, p := range pairs {
			x, e := p.f(a, b)
			verify(p.name+" "+show(a)+" and "+show(b), x, e, func(n api.Name) bool { return p.want(contains(a, n), contains(b, n)) })
		}
	})
}
