package names

import (
	"maps"
	"slices"

	"gabarit/api"
)

// shape is a set of names: in says which mentioned names are in it, full which mentioned spaces are full, and wide whether the other spaces are.
type shape struct {
	in   map[api.Name]bool
	full map[string]bool
	wide bool
}

// normal returns the normal class of the names that are wanted; the classes of l decide which names are.
func normal(l []api.Class, wanted func(n api.Name) bool) (api.Class, api.Errno) {
	if e := checkAll(l); e != api.OK {
		return api.Class{}, e
	}
	c := shapeOf(mentionedIn(l), wanted).class()
	if !small(c) {
		return api.Class{}, api.ErrLong
	}
	return c, api.OK
}

// shapeOf returns the shape of the set of the names that are wanted.
func shapeOf(m mention, wanted func(n api.Name) bool) shape {
	s := shape{in: map[api.Name]bool{}, full: map[string]bool{}}
	for n := range m.candidates(nil) {
		switch {
		case m.names[n]:
			s.in[n] = wanted(n)
		case m.spaces[n.Space]:
			s.full[n.Space] = wanted(n)
		default:
			s.wide = wanted(n)
		}
	}
	return s
}

// class returns the normal class of s.
func (s shape) class() api.Class {
	odd := together(s.odd())
	switch {
	case s.wide:
		return api.Class{Kind: api.ClAny, Except: odd}
	case len(odd) == 0:
		return api.Class{Kind: api.ClAny, Except: []api.Class{{Kind: api.ClAny}}}
	}
	return odd[0]
}

// odd returns the odd classes of s.
func (s shape) odd() []api.Class {
	singles := s.oddNames()
	var l []api.Class
	for _, space := range slices.Sorted(maps.Keys(s.full)) {
		if s.full[space] != s.wide {
			l = append(l, api.Class{Kind: api.ClSpace, Space: space, Except: together(singles[space])})
		} else {
			l = append(l, singles[space]...)
		}
	}
	return l
}

// oddNames returns, for each space, the classes of its odd names, ascending.
func (s shape) oddNames() map[string][]api.Class {
	singles := map[string][]api.Class{}
	for _, n := range slices.SortedFunc(maps.Keys(s.in), order) {
		if s.in[n] != s.full[n.Space] {
			singles[n.Space] = append(singles[n.Space], api.Class{Kind: api.ClName, Name: n})
		}
	}
	return singles
}

// together puts classes together to one; of no class it makes none.
func together(l []api.Class) []api.Class {
	if len(l) <= 1 {
		return l
	}
	return []api.Class{{Kind: api.ClChoice, Args: l}}
}
