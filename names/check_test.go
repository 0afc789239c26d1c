package names_test

import (
	"math/rand/v2"
	"strings"
	"testing"

	"gabarit/api"
	"gabarit/names"
)

// nested is a class of that depth, made by putting * into wrap again and again.
func nested(depth int, wrap func(c api.Class) api.Class) api.Class {
	c := every()
	for range depth - 1 {
		c = wrap(c)
	}
	return c
}

func inAny(c api.Class) api.Class    { return every(c) }
func inSpace(c api.Class) api.Class  { return space("a", c) }
func inChoice(c api.Class) api.Class { return choice(c) }

// inUnused puts c into a field that a ClName does not use.
func inUnused(c api.Class) api.Class {
	return api.Class{Kind: api.ClName, Name: nm("a", "x"), Args: []api.Class{c}}
}

// selfish are classes that contain themselves.
func selfish() []api.Class {
	args := []api.Class{choice(), choice()}
	args[0].Args, args[1].Args = args, args
	except := []api.Class{every()}
	except[0].Except = except
	return []api.Class{choice(args...), every(except...)}
}

// P1.1: a class that is not small.
func TestCheckSmall(t *testing.T) {
	unused := func(kind int) api.Class {
		return api.Class{Kind: kind, Except: manyNames("a", 50), Args: manyNames("b", 50)}
	}
	for _, c := range []struct {
		what string
		c    api.Class
		want api.Errno
	}{
		{"100 classes in a choice", choice(manyNames("a", 99)...), api.OK},
		{"101 classes in a choice", long, api.ErrLong},
		{"100 classes in an except", every(choice(manyNames("a", 98)...)), api.OK},
		{"101 classes in an except", every(choice(manyNames("a", 99)...)), api.ErrLong},
		{"100 classes in choices", choice(choice(manyNames("a", 49)...), choice(manyNames("b", 48)...)), api.OK},
		{"101 classes in choices", choice(choice(manyNames("a", 49)...), choice(manyNames("b", 49)...)), api.ErrLong},
		{"100 classes, some of them equal", choice(append(manyNames("a", 1), append(manyNames("a", 49), manyNames("a", 49)...)...)...), api.OK},
		{"depth 10, *", nested(10, inAny), api.OK},
		{"depth 11, *", nested(11, inAny), api.ErrLong},
		{"depth 10, spaces", nested(10, inSpace), api.OK},
		{"depth 11, spaces", nested(11, inSpace), api.ErrLong},
		{"depth 10, choices", nested(10, inChoice), api.OK},
		{"depth 11, choices", nested(11, inChoice), api.ErrLong},
		{"depth 10 and then 2", choice(nested(9, inAny), nested(2, inAny)), api.OK},
		{"depth 2 and then 11", choice(nested(2, inAny), nested(10, inAny)), api.ErrLong},
		{"depth 11 behind a bad class", choice(bad, nested(10, inChoice)), api.ErrLong},
		{"depth 10 in an unused field", nested(10, inUnused), api.ErrArg},
		{"depth 11 in an unused field", nested(11, inUnused), api.ErrLong},
		{"both too large and bad", both, api.ErrLong},
		{"101 classes in fields that a name does not use", unused(api.ClName), api.ErrLong},
		{"101 classes in fields of a space", unused(api.ClSpace), api.ErrLong},
		{"101 classes in fields of *", unused(api.ClAny), api.ErrLong},
		{"101 classes in fields of a choice", unused(api.ClChoice), api.ErrLong},
		{"101 classes in no kind", unused(0), api.ErrLong},
		{"101 classes in an unknown kind", unused(5), api.ErrLong},
	} {
		if e := names.Check(c.c); e != c.want {
			t.Errorf("%s: %d, want %d", c.what, e, c.want)
		}
	}
	for i, c := range selfish() {
		if e := names.Check(c); e != api.ErrLong {
			t.Errorf("class %d that contains itself: %d", i, e)
		}
	}
}

// P1.1: a class that is not well-formed.
func TestCheckForm(t *testing.T) {
	x, l := nm("a", "x"), []api.Class{name("a", "x")}
	twice := append(l, l...)
	w200, w201 := strings.Repeat("w", 200), strings.Repeat("w", 201)
	for _, c := range []struct {
		what string
		c    api.Class
		want api.Errno
	}{
		{"a name", name("a", "x"), api.OK},
		{"a name without a space", name("", "x"), api.OK},
		{"a name of one byte", name("", "\x00"), api.OK},
		{"a name of any bytes", name("\xff\x00", "\xff :"), api.OK},
		{"a longest name", name(w200, w200), api.OK},
		{"100 characters of two bytes", name("", strings.Repeat("é", 100)), api.OK},
		{"101 characters of two bytes", name("", strings.Repeat("é", 101)), api.ErrArg},
		{"an empty local", name("a", ""), api.ErrArg},
		{"a local too long", name("a", w201), api.ErrArg},
		{"a space of a name too long", name(w201, "x"), api.ErrArg},
		{"a name with a space", api.Class{Kind: api.ClName, Name: x, Space: "a"}, api.ErrArg},
		{"a name with an except", api.Class{Kind: api.ClName, Name: x, Except: l}, api.ErrArg},
		{"a name with args", api.Class{Kind: api.ClName, Name: x, Args: l}, api.ErrArg},
		{"a space", space("a"), api.OK},
		{"the empty space", space(""), api.OK},
		{"a space with an except", space("a", l...), api.OK},
		{"an except of another space", space("a", name("b", "x")), api.OK},
		{"a longest space", space(w200), api.OK},
		{"a space too long", space(w201), api.ErrArg},
		{"100 characters in a space", space(strings.Repeat("é", 100)), api.OK},
		{"101 characters in a space", space(strings.Repeat("é", 101)), api.ErrArg},
		{"a space with two excepts", space("a", twice...), api.ErrArg},
		{"a space with a local", api.Class{Kind: api.ClSpace, Space: "a", Name: nm("", "x")}, api.ErrArg},
		{"a space with the space of a name", api.Class{Kind: api.ClSpace, Space: "a", Name: nm("a", "")}, api.ErrArg},
		{"a space with args", api.Class{Kind: api.ClSpace, Space: "a", Args: l}, api.ErrArg},
		{"*", every(), api.OK},
		{"* with an except", every(l...), api.OK},
		{"* with two excepts", every(twice...), api.ErrArg},
		{"* with a name", api.Class{Kind: api.ClAny, Name: x}, api.ErrArg},
		{"* with a local", api.Class{Kind: api.ClAny, Name: nm("", "x")}, api.ErrArg},
		{"* with the space of a name", api.Class{Kind: api.ClAny, Name: nm("a", "")}, api.ErrArg},
		{"* with a space", api.Class{Kind: api.ClAny, Space: "a"}, api.ErrArg},
		{"* with args", api.Class{Kind: api.ClAny, Args: l}, api.ErrArg},
		{"a choice of one", choice(l...), api.OK},
		{"a choice of the same", choice(twice...), api.OK},
		{"a choice of nothing", choice(), api.ErrArg},
		{"a choice with an except", api.Class{Kind: api.ClChoice, Args: l, Except: l}, api.ErrArg},
		{"a choice with a space", api.Class{Kind: api.ClChoice, Args: l, Space: "a"}, api.ErrArg},
		{"a choice with a local", api.Class{Kind: api.ClChoice, Args: l, Name: nm("", "x")}, api.ErrArg},
		{"a choice with the space of a name", api.Class{Kind: api.ClChoice, Args: l, Name: nm("a", "")}, api.ErrArg},
		{"no kind", api.Class{}, api.ErrArg},
		{"no kind, with a name", api.Class{Name: x}, api.ErrArg},
		{"the kind 5", api.Class{Kind: 5}, api.ErrArg},
		{"the kind -1", api.Class{Kind: -1}, api.ErrArg},
		{"bad in a space", space("a", bad), api.ErrArg},
		{"bad in *", every(bad), api.ErrArg},
		{"bad first in a choice", choice(bad, every()), api.ErrArg},
		{"bad last in a choice", choice(every(), space("a"), bad), api.ErrArg},
		{"bad far inside", every(choice(name("a", "x"), space("a", every(choice(bad))))), api.ErrArg},
		{"bad, though it excepts nothing", space("b", choice(name("a", "x"), bad)), api.ErrArg},
	} {
		if e := names.Check(c.c); e != c.want {
			t.Errorf("%s: %d, want %d", c.what, e, c.want)
		}
	}
}

// P1.1: Less, for any names.
func TestLess(t *testing.T) {
	ascending := []api.Name{
		nm("", ""), nm("", "z"), nm("A", "z"), nm("a", ""), nm("a", "B"), nm("a", "a"), nm("a", "a\x00"), nm("a", "aa"), nm("a", "b"), nm("a", "é"), nm("a", "\xff"),
		nm("a\x00", "a"), nm("aa", "a"), nm("b", ""), nm("b", "A"), nm("z", "a"), nm("\xff", "a"), nm(strings.Repeat("\xff", 300), strings.Repeat("\xff", 300)),
	}
	for i, a := range ascending {
		for k, b := range ascending {
			if less := names.Less(a, b); less != (i < k) {
				t.Errorf("Less(%q, %q): %v", a, b, less)
			}
		}
	}
}

// P1.2
func TestHas(t *testing.T) {
	for _, c := range []struct {
		c    api.Class
		n    api.Name
		want bool
	}{
		{every(name("a", "x")), nm("a", "x"), false},
		{every(name("a", "x")), nm("b", "x"), true},
		{every(name("a", "x")), nm("a", "y"), true},
		{every(), nm("", "x"), true},
		{name("a", "x"), nm("a", "x"), true},
		{name("a", "x"), nm("a", "X"), false},
		{name("a", "x"), nm("", "x"), false},
		{name("", "x"), nm("", "x"), true},
		{space("a"), nm("a", "y"), true},
		{space("a"), nm("aa", "y"), false},
		{space(""), nm("", "y"), true},
		{space(""), nm("a", "y"), false},
		{space("a", name("a", "x")), nm("a", "x"), false},
		{space("a", name("b", "x")), nm("a", "x"), true},
		{space("a", name("b", "x")), nm("b", "x"), false},
		{space("a", name("b", "x")), nm("b", "y"), false},
		{space("a", space("a", name("a", "x"))), nm("a", "x"), true},
		{space("a", space("a", name("a", "x"))), nm("a", "y"), false},
		{every(every(every())), nm("a", "y"), true},
		{every(choice(space("a"), space("b"))), nm("b", "y"), false},
		{every(choice(space("a"), space("b"))), nm("c", "y"), true},
		{choice(name("a", "x"), name("a", "y")), nm("a", "y"), true},
		{choice(name("a", "x"), every(name("a", "x"))), nm("a", "x"), true},
		{choice(name("a", "x"), name("a", "y")), nm("a", "z"), false},
		{every(), nm(strings.Repeat("w", 200), strings.Repeat("w", 200)), true},
	} {
		if has, e := names.Has(c.c, c.n); has != c.want || e != api.OK {
			t.Errorf("Has(%s, %q): %v, %d", show(c.c), c.n, has, e)
		}
	}
	randoms(t, 2000, func(r *rand.Rand) {
		c := randomClass(r, 4)
		for _, n := range universe() {
			if has, e := names.Has(c, n); has != contains(c, n) || e != api.OK {
				t.Errorf("Has(%s, %q): %v, %d", show(c), n, has, e)
			}
		}
	})
}

// P1.2: invalid names, and what is returned first.
func TestHasErrors(t *testing.T) {
	w201 := strings.Repeat("w", 201)
	for _, n := range []api.Name{{}, nm("a", ""), nm("a", w201), nm(w201, "x"), nm("", strings.Repeat("é", 101))} {
		for _, c := range []struct {
			c    api.Class
			want api.Errno
		}{{every(), api.ErrArg}, {bad, api.ErrArg}, {long, api.ErrLong}, {both, api.ErrLong}} {
			if has, e := names.Has(c.c, n); has || e != c.want {
				t.Errorf("Has(%.20q, %.20q): %v, %d, want %d", show(c.c), n, has, e, c.want)
			}
		}
	}
	for _, c := range []struct {
		c    api.Class
		want api.Errno
	}{{bad, api.ErrArg}, {choice(name("a", "x"), bad), api.ErrArg}, {long, api.ErrLong}, {both, api.ErrLong}} {
		if has, e := names.Has(c.c, nm("a", "x")); has || e != c.want {
			t.Errorf("Has(%.20q): %v, %d, want %d", show(c.c), has, e, c.want)
		}
	}
}
