package names_test

import (
	"cmp"
	"math/rand/v2"
	"slices"
	"strconv"
	"strings"
	"testing"

	"gabarit/api"
)

// nm is a name; name, space, every and choice are classes: a:x, a:*, * and the choice of some.
func nm(space, local string) api.Name { return api.Name{Space: space, Local: local} }
func name(space, local string) api.Class {
	return api.Class{Kind: api.ClName, Name: nm(space, local)}
}
func space(space string, except ...api.Class) api.Class {
	return api.Class{Kind: api.ClSpace, Space: space, Except: except}
}
func every(except ...api.Class) api.Class { return api.Class{Kind: api.ClAny, Except: except} }
func choice(l ...api.Class) api.Class     { return api.Class{Kind: api.ClChoice, Args: l} }

// manyNames are classes of n different names of a space, ascending.
func manyNames(space string, n int) []api.Class {
	var l []api.Class
	for i := range n {
		l = append(l, name(space, "n"+strconv.Itoa(1000+i)))
	}
	return l
}

// Classes that Check refuses.
var (
	bad  = name("a", "")
	long = choice(manyNames("a", 100)...)
	// both is too large, and has a bad class in it.
	both = choice(append(manyNames("a", 99), bad)...)
)

// show writes a class as the chapter does. Two classes are equal exactly if they are shown in the same way, apart from fields that their kind does not use.
func show(c api.Class) string {
	except := ""
	if len(c.Except) > 0 {
		except = " -" + showAll(c.Except)
	}
	switch c.Kind {
	case api.ClName:
		return c.Name.Space + ":" + c.Name.Local
	case api.ClSpace:
		return c.Space + ":*" + except
	case api.ClAny:
		return "*" + except
	case api.ClChoice:
		return "choice" + showAll(c.Args)
	}
	return "kind " + strconv.Itoa(c.Kind)
}

func showAll(l []api.Class) string {
	var b strings.Builder
	for _, c := range l {
		b.WriteString(" (" + show(c) + ")")
	}
	return b.String()
}

// same reports whether two classes are equal; a nil list and an empty one are.
func same(a, b api.Class) bool {
	return a.Kind == b.Kind && a.Name == b.Name && a.Space == b.Space && slices.EqualFunc(a.Except, b.Except, same) && slices.EqualFunc(a.Args, b.Args, same)
}

// copied returns a copy of c that shares no memory with it.
func copied(c api.Class) api.Class {
	c.Except, c.Args = copiedAll(c.Except), copiedAll(c.Args)
	return c
}

func copiedAll(l []api.Class) []api.Class {
	l = slices.Clone(l)
	for i := range l {
		l[i] = copied(l[i])
	}
	return l
}

// spoil overwrites all memory that c holds, up to the capacities of its lists.
func spoil(c api.Class) {
	for _, l := range [][]api.Class{c.Except, c.Args} {
		for _, inner := range l {
			spoil(inner)
		}
		l = l[:cap(l)]
		for i := range l {
			l[i] = name("spoilt", "spoilt")
		}
	}
}

// contains tells straight from the definition whether n is in the set of c.
func contains(c api.Class, n api.Name) bool {
	among := func(l []api.Class) bool {
		for _, inner := range l {
			if contains(inner, n) {
				return true
			}
		}
		return false
	}
	switch c.Kind {
	case api.ClName:
		return n == c.Name
	case api.ClSpace:
		return n.Space == c.Space && !among(c.Except)
	case api.ClAny:
		return !among(c.Except)
	default:
		return among(c.Args)
	}
}

// The spaces and the local names of random classes.
var (
	somePlaces = []string{"", "a", "b", "u"}
	someLocals = []string{"x", "x1", "x2", "y", "Y"}
)

// universe has all names of random classes, a few others of their spaces, and some of other spaces. Two sets that random classes describe are the same if they have the same names of it.
func universe() []api.Name {
	var l []api.Name
	for _, s := range append([]string{"u1", "u2", "elsewhere"}, somePlaces...) {
		for _, local := range append([]string{"x3", "x4", "other"}, someLocals...) {
			l = append(l, nm(s, local))
		}
	}
	return l
}

// randoms calls try with a source of chance that is always the same.
func randoms(t *testing.T, times int, try func(r *rand.Rand)) {
	t.Helper()
	r := rand.New(rand.NewPCG(1, 2))
	for range times {
		try(r)
		if t.Failed() {
			return
		}
	}
}

// randomClass returns a well-formed class.
func randomClass(r *rand.Rand, deep int) api.Class {
	kind := r.IntN(8)
	if deep == 0 {
		kind = r.IntN(4)
	}
	switch kind {
	case 0, 1:
		return name(pick(r, somePlaces), pick(r, someLocals))
	case 2:
		return space(pick(r, somePlaces))
	case 3:
		return every()
	case 4:
		return space(pick(r, somePlaces), randomClass(r, deep-1))
	case 5:
		return every(randomClass(r, deep-1))
	default:
		var l []api.Class
		for range 1 + r.IntN(4) {
			l = append(l, randomClass(r, deep-1))
		}
		return choice(l...)
	}
}

func pick(r *rand.Rand, l []string) string { return l[r.IntN(len(l))] }

// candidates lists the candidates of l and avoid, straight from the definition.
func candidates(l []api.Class, avoid []api.Name) []api.Name {
	var mentioned []api.Name
	var spaces []string
	var visit func(l []api.Class)
	visit = func(l []api.Class) {
		for _, c := range l {
			if c.Kind == api.ClName {
				mentioned, spaces = append(mentioned, c.Name), append(spaces, c.Name.Space)
			}
			if c.Kind == api.ClSpace {
				spaces = append(spaces, c.Space)
			}
			visit(c.Except)
			visit(c.Args)
		}
	}
	visit(l)
	slices.SortFunc(mentioned, func(a, b api.Name) int { return cmp.Or(cmp.Compare(a.Space, b.Space), cmp.Compare(a.Local, b.Local)) })
	slices.Sort(spaces)
	found := slices.Compact(mentioned)
	spaces = slices.Compact(spaces)
	newSpace := "u"
	for i := 1; slices.Contains(spaces, newSpace); i++ {
		newSpace = "u" + strconv.Itoa(i)
	}
	taken := append(slices.Clone(found), avoid...)
	for _, s := range append(spaces, newSpace) {
		fresh := nm(s, "x")
		for i := 1; slices.Contains(taken, fresh); i++ {
			fresh.Local = "x" + strconv.Itoa(i)
		}
		found = append(found, fresh)
	}
	return found
}
