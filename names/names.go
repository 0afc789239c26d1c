// Package names computes with names in spaces and with sets of them: see shared/doc.
package names

import (
	"cmp"
	"slices"
	"strings"

	"gabarit/api"
)

// Check returns ErrLong if c is not small, then ErrArg if it is not well-formed.
func Check(c api.Class) api.Errno {
	if !small(c) {
		return api.ErrLong
	}
	for part := range parts(c) {
		if !fits(part) {
			return api.ErrArg
		}
	}
	return api.OK
}

// Has reports whether n is in the set of c.
func Has(c api.Class, n api.Name) (bool, api.Errno) {
	if e := Check(c); e != api.OK {
		return false, e
	}
	if !valid(n) {
		return false, api.ErrArg
	}
	return holds(c, n), api.OK
}

// Normal returns the normal class of the set of c.
func Normal(c api.Class) (api.Class, api.Errno) {
	return normal([]api.Class{c}, func(n api.Name) bool { return holds(c, n) })
}

// Join returns the normal class of the names of a and of b.
func Join(a, b api.Class) (api.Class, api.Errno) {
	return normal([]api.Class{a, b}, func(n api.Name) bool { return holds(a, n) || holds(b, n) })
}

// Meet returns the normal class of the names that are in both a and b.
func Meet(a, b api.Class) (api.Class, api.Errno) {
	return normal([]api.Class{a, b}, func(n api.Name) bool { return holds(a, n) && holds(b, n) })
}

// Minus returns the normal class of the names of a that are not in b.
func Minus(a, b api.Class) (api.Class, api.Errno) {
	return normal([]api.Class{a, b}, func(n api.Name) bool { return holds(a, n) && !holds(b, n) })
}

// Empty reports whether c has no names.
func Empty(c api.Class) (bool, api.Errno) {
	return never([]api.Class{c}, func(n api.Name) bool { return holds(c, n) })
}

// Includes reports whether all names of b are in a.
func Includes(a, b api.Class) (bool, api.Errno) {
	return never([]api.Class{a, b}, func(n api.Name) bool { return holds(b, n) && !holds(a, n) })
}

// Overlap reports whether some name is in both a and b.
func Overlap(a, b api.Class) (bool, api.Errno) {
	apart, e := never([]api.Class{a, b}, func(n api.Name) bool { return holds(a, n) && holds(b, n) })
	return e == api.OK && !apart, e
}

// Witness returns the first candidate that is in c and not among avoid.
func Witness(c api.Class, avoid []api.Name) (api.Name, api.Errno) {
	if e := Check(c); e != api.OK {
		return api.Name{}, e
	}
	avoided := map[api.Name]bool{}
	for _, n := range avoid {
		avoided[n] = true
	}
	for n := range mentionedIn([]api.Class{c}).candidates(avoided) {
		if holds(c, n) && !avoided[n] {
			return n, api.OK
		}
	}
	return api.Name{}, api.ErrNone
}

// Cells returns the cells into which the classes of l divide all names.
func Cells(l []api.Class) ([]api.Cell, api.Errno) {
	if len(l) > api.MaxClass {
		return nil, api.ErrLong
	}
	if e := checkAll(l); e != api.OK {
		return nil, e
	}
	var cells []api.Cell
	seen := map[[api.MaxClass]bool]bool{}
	for n := range mentionedIn(l).candidates(nil) {
		var in [api.MaxClass]bool
		for i, c := range l {
			in[i] = holds(c, n)
		}
		if !seen[in] {
			seen[in] = true
			cells = append(cells, api.Cell{Witness: n, In: slices.Clone(in[:len(l)])})
		}
	}
	return cells, api.OK
}

// Less reports whether a comes before b.
func Less(a, b api.Name) bool { return order(a, b) < 0 }

// order is negative if a comes before b, and 0 if they are the same name.
func order(a, b api.Name) int {
	return cmp.Or(strings.Compare(a.Space, b.Space), strings.Compare(a.Local, b.Local))
}

// checkAll returns the error of the first class of l that has one.
func checkAll(l []api.Class) api.Errno {
	for _, c := range l {
		if e := Check(c); e != api.OK {
			return e
		}
	}
	return api.OK
}

// never reports whether no name at all is wanted; the classes of l decide which names are.
func never(l []api.Class, wanted func(n api.Name) bool) (bool, api.Errno) {
	if e := checkAll(l); e != api.OK {
		return false, e
	}
	for n := range mentionedIn(l).candidates(nil) {
		if wanted(n) {
			return false, api.OK
		}
	}
	return true, api.OK
}
