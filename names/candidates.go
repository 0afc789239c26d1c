package names

import (
	"iter"
	"maps"
	"slices"
	"strconv"

	"gabarit/api"
)

// mention is the names and the spaces that some classes mention.
type mention struct {
	names  map[api.Name]bool
	spaces map[string]bool
}

// mentionedIn returns what the classes of l mention.
func mentionedIn(l []api.Class) mention {
	m := mention{names: map[api.Name]bool{}, spaces: map[string]bool{}}
	for _, c := range l {
		for part := range parts(c) {
			switch part.Kind {
			case api.ClName:
				m.names[part.Name] = true
				m.spaces[part.Name.Space] = true
			case api.ClSpace:
				m.spaces[part.Space] = true
			}
		}
	}
	return m
}

// candidates produces the names that decide about sets of classes that mention no more than m: any other name, if it is not avoided, is in the same ones of them as the fresh name of its space or of the new space.
func (m mention) candidates(avoided map[api.Name]bool) iter.Seq[api.Name] {
	return func(yield func(api.Name) bool) {
		for _, n := range slices.SortedFunc(maps.Keys(m.names), order) {
			if !yield(n) {
				return
			}
		}
		for _, space := range slices.Sorted(maps.Keys(m.spaces)) {
			if !yield(m.fresh(space, avoided)) {
				return
			}
		}
		yield(m.fresh(m.newSpace(), avoided))
	}
}

// fresh returns the fresh name of a space.
func (m mention) fresh(space string, avoided map[api.Name]bool) api.Name {
	local := firstFree("x", func(local string) bool {
		n := api.Name{Space: space, Local: local}
		return m.names[n] || avoided[n]
	})
	return api.Name{Space: space, Local: local}
}

// newSpace returns a space that is not mentioned.
func (m mention) newSpace() string {
	return firstFree("u", func(space string) bool { return m.spaces[space] })
}

// firstFree returns the first of the stem alone and the stem with 1, 2, 3, .. behind it that is not taken.
func firstFree(stem string, taken func(word string) bool) string {
	word := stem
	for i := 1; taken(word); i++ {
		word = stem + strconv.Itoa(i)
	}
	return word
}
