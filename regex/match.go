package regex

import (
	"iter"
	"math/bits"

	"gabarit/api"
)

// places is a set of places in a word: in front of a character, by its number, or at the end. Bit i%64 of element i/64 says whether the place i is in it.
type places [(api.MaxLetter + 64) / 64]uint64

// only returns the set of one place.
func only(place int) places {
	var l places
	l[place/64] = 1 << (place % 64)
	return l
}

func (l places) has(place int) bool { return l[place/64]>>(place%64)&1 == 1 }

// with returns the places of l and of more.
func (l places) with(more places) places {
	for i := range l {
		l[i] |= more[i]
	}
	return l
}

// without returns the places of l that are not in other.
func (l places) without(other places) places {
	for i := range l {
		l[i] &^= other[i]
	}
	return l
}

// all produces the places, ascending.
func (l places) all() iter.Seq[int] {
	return func(yield func(int) bool) {
		for i, left := range l {
			for ; left != 0; left &= left - 1 {
				if !yield(64*i + bits.TrailingZeros64(left)) {
					return
				}
			}
		}
	}
}

// question asks where the words of an expression end that begin at a place.
type question struct{ number, from int }

// asker tells where the words of the expression with a number end that begin at one of some places.
type asker func(number int, from places) places

// matches reports whether word is one of the words of x.
func matches(x api.Regex, word []int32) bool {
	l := parts(x)
	known := map[question]places{}
	var ends asker
	ends = func(number int, from places) places {
		var to places
		for place := range from.all() {
			q := question{number, place}
			found, ok := known[q]
			if !ok {
				found = l[number].ends(place, word, ends)
				known[q] = found
			}
			to = to.with(found)
		}
		return to
	}
	return ends(0, only(0)).has(len(word))
}

// ends returns where the words of p end that begin at a place.
func (p part) ends(from int, word []int32, ask asker) places {
	to := only(from)
	switch p.x.Kind {
	case api.RxSet:
		if from == len(word) || !holds(p.x.Set, word[from]) {
			return places{}
		}
		return only(from + 1)
	case api.RxSeq:
		for i := range p.x.Args {
			to = ask(p.first+i, to)
		}
	case api.RxAlt:
		to = places{}
		for i := range p.x.Args {
			to = to.with(ask(p.first+i, only(from)))
		}
	case api.RxTimes:
		to = p.repeated(to, ask)
	}
	return to
}

// repeated returns where the words of p, which is a repetition, end that begin at one of some places.
func (p part) repeated(from places, ask asker) places {
	for range p.x.Low {
		to := ask(p.first, from)
		if to == from {
			break
		}
		from = to
	}
	// Only places that are reached for the first time lead to new ones: from the others words have gone on already, with fewer repetitions.
	to, fresh := from, from
	for n := p.x.Low; n != p.x.High && fresh != (places{}); n++ {
		fresh = ask(p.first, fresh).without(to)
		to = to.with(fresh)
	}
	return to
}
