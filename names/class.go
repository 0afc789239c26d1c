package names

import (
	"iter"
	"slices"

	"gabarit/api"
)

// maxDepth is how deep classes may be nested.
const maxDepth = 10

// parts produces the classes in c, itself first, with their depths.
func parts(c api.Class) iter.Seq2[api.Class, int] {
	return func(yield func(api.Class, int) bool) {
		var visit func(c api.Class, depth int) bool
		visit = func(c api.Class, depth int) bool {
			if !yield(c, depth) {
				return false
			}
			for _, l := range [...][]api.Class{c.Except, c.Args} {
				for _, inner := range l {
					if !visit(inner, depth+1) {
						return false
					}
				}
			}
			return true
		}
		visit(c, 1)
	}
}

// small reports whether c has few enough classes in it, not nested too deep. It stops at the first one too many, because c may even contain itself.
func small(c api.Class) bool {
	count := 0
	for _, depth := range parts(c) {
		count++
		if count > api.MaxClass || depth > maxDepth {
			return false
		}
	}
	return true
}

// fits reports whether the fields of c are as its kind wants them, whatever is wrong in the classes in it.
func fits(c api.Class) bool {
	unnamed, unspaced := c.Name == (api.Name{}), c.Space == ""
	switch c.Kind {
	case api.ClName:
		return valid(c.Name) && unspaced && len(c.Except) == 0 && len(c.Args) == 0
	case api.ClSpace:
		return unnamed && len(c.Space) <= api.MaxWord && len(c.Except) <= 1 && len(c.Args) == 0
	case api.ClAny:
		return unnamed && unspaced && len(c.Except) <= 1 && len(c.Args) == 0
	case api.ClChoice:
		return unnamed && unspaced && len(c.Except) == 0 && len(c.Args) > 0
	}
	return false
}

// valid reports whether n is a valid name.
func valid(n api.Name) bool {
	return n.Local != "" && len(n.Local) <= api.MaxWord && len(n.Space) <= api.MaxWord
}

// holds reports whether n is in the set of c, which is well-formed.
func holds(c api.Class, n api.Name) bool {
	inside := func(inner api.Class) bool { return holds(inner, n) }
	switch c.Kind {
	case api.ClName:
		return c.Name == n
	case api.ClSpace:
		return c.Space == n.Space && !slices.ContainsFunc(c.Except, inside)
	case api.ClChoice:
		return slices.ContainsFunc(c.Args, inside)
	}
	return !slices.ContainsFunc(c.Except, inside)
}
