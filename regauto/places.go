package regauto

import (
	"iter"
	"slices"

	"gabarit/api"
)

const (
	// maxPlaces is how many places an expression has at most.
	maxPlaces = 1000
	// beginning is the number before those of the places.
	beginning = 0
	// unlimited is the High of a repetition, and the length of words, without end.
	unlimited = -1
)

// places is a set of places, by their numbers, and of the beginning. Bit i%64 of element i/64 says whether i is in it.
type places [(maxPlaces + 64) / 64]uint64

func (l places) has(place int) bool { return l[place/64]>>(place%64)&1 == 1 }

func (l *places) put(place int) { l[place/64] |= 1 << (place % 64) }

// add adds those of more to l.
func (l *places) add(more places) {
	for i, bits := range more {
		l[i] |= bits
	}
}

// meet returns those that are in both l and other.
func (l places) meet(other places) places {
	for i, bits := range other {
		l[i] &= bits
	}
	return l
}

// countPlaces returns how many places x has, or a number above maxPlaces if there are more than that.
func countPlaces(x api.Regex) int {
	n := 0
	if x.Kind == api.RxSet {
		n = 1
	}
	for _, arg := range x.Args {
		n += countPlaces(arg)
	}
	if x.Kind == api.RxTimes {
		n *= max(x.Low, x.High, 1)
	}
	return min(n, maxPlaces+1)
}

// setsOf produces the ranges of all sets in x.
func setsOf(x api.Regex) iter.Seq[api.Range] {
	return func(yield func(api.Range) bool) {
		var visit func(x api.Regex) bool
		visit = func(x api.Regex) bool {
			for _, r := range x.Set {
				if !yield(r) {
					return false
				}
			}
			for _, arg := range x.Args {
				if !visit(arg) {
					return false
				}
			}
			return true
		}
		visit(x)
	}
}

// unfolded is an expression whose repetitions are written out: the sets of its places, by their numbers; which places may follow each of them, and the beginning; and at which places its words may end (the empty word: at the beginning).
type unfolded struct {
	sets   [][]api.Range
	follow []places
	last   places
}

// ways says of a part of an expression whether it has the empty word, and at which places its other words begin and end.
type ways struct {
	empty       bool
	first, last places
}

// unfold returns x, which does not have too many places, unfolded.
func unfold(x api.Regex) *unfolded {
	u := &unfolded{sets: [][]api.Range{beginning: nil}, follow: []places{beginning: {}}}
	all := u.add(x)
	u.follow[beginning] = all.first
	u.last = all.last
	if all.empty {
		u.last.put(beginning)
	}
	return u
}

// add adds the places of x to u.
func (u *unfolded) add(x api.Regex) ways {
	switch x.Kind {
	case api.RxSet:
		return u.place(x.Set)
	case api.RxSeq:
		all := ways{empty: true}
		for _, arg := range x.Args {
			all = u.behind(all, u.add(arg))
		}
		return all
	case api.RxAlt:
		var all ways
		for _, arg := range x.Args {
			w := u.add(arg)
			all.empty = all.empty || w.empty
			all.first.add(w.first)
			all.last.add(w.last)
		}
		return all
	case api.RxTimes:
		return u.times(x)
	}
	return ways{empty: true}
}

// place adds a place with a set.
func (u *unfolded) place(set []api.Range) ways {
	var itself places
	itself.put(len(u.sets))
	u.sets = append(u.sets, set)
	u.follow = append(u.follow, places{})
	return ways{first: itself, last: itself}
}

// times adds the places of a repetition.
func (u *unfolded) times(x api.Regex) ways {
	arg := x.Args[0]
	all := ways{empty: true}
	// Without a place it is the empty word, which must not be written out as often as it is repeated.
	if countPlaces(arg) == 0 {
		return all
	}
	must, may := x.Low, x.High-x.Low
	if x.High == unlimited {
		must, may = x.Low-1, 0
		all = u.add(arg)
		u.link(all.last, all.first)
		all.empty = all.empty || x.Low == 0
	}
	// They are added from the last one on, because each one that may be missing contains those behind it.
	for range may {
		all = u.behind(u.add(arg), all)
		all.empty = true
	}
	for range must {
		all = u.behind(u.add(arg), all)
	}
	return all
}

// behind returns the ways through two parts, the second one behind the first one.
func (u *unfolded) behind(first, second ways) ways {
	u.link(first.last, second.first)
	if first.empty {
		first.first.add(second.first)
	}
	if second.empty {
		second.last.add(first.last)
	}
	return ways{first.empty && second.empty, first.first, second.last}
}

// link makes it possible that each place of next follows each place of set.
func (u *unfolded) link(set, next places) {
	for place := range u.follow {
		if set.has(place) {
			u.follow[place].add(next)
		}
	}
}

// following returns the places that may follow one of a set.
func (u *unfolded) following(set places) places {
	var l places
	for place, follow := range u.follow {
		if set.has(place) {
			l.add(follow)
		}
	}
	return l
}

// reading returns the automaton of the words of u, whose states stand for the beginning and for the sets of places that are reached.
func (u *unfolded) reading() automaton[places] {
	letters := alphabetOf(slices.Values(slices.Concat(u.sets...)))
	at := make([]places, letters.count())
	for place, set := range u.sets {
		for _, r := range set {
			for letter := range letters.of(r) {
				at[letter].put(place)
			}
		}
	}
	steps := func(state places) iter.Seq2[api.Range, places] {
		return func(yield func(api.Range, places) bool) {
			follow := u.following(state)
			for letter, set := range at {
				to := follow.meet(set)
				if to != (places{}) && !yield(letters.letter(letter), to) {
					return
				}
			}
		}
	}
	var start places
	start.put(beginning)
	return automaton[places]{start, steps, func(state places) bool { return state.meet(u.last) != places{} }}
}
