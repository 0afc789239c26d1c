package regex

import (
	"iter"
	"math"
	"slices"

	"gabarit/api"
)

// setOf returns the ranges with these ends: from, to, from, to, and so on.
func setOf(ends ...int32) []api.Range {
	l := make([]api.Range, len(ends)/2)
	for i := range l {
		l[i] = api.Range{Low: ends[2*i], High: ends[2*i+1]}
	}
	return l
}

// characters returns the set of all characters.
func characters() []api.Range {
	return setOf(9, 10, 13, 13, 32, 55295, 57344, 65533, 65536, 1114111)
}

// isSet reports whether l is a set of characters.
func isSet(l []api.Range) bool {
	all := characters()
	for i, r := range l {
		inside := func(block api.Range) bool {
			return block.Low <= r.Low && r.Low <= r.High && r.High <= block.High
		}
		if !slices.ContainsFunc(all, inside) || i > 0 && r.Low < l[i-1].High+2 {
			return false
		}
	}
	return true
}

// holds reports whether c is in a set.
func holds(set []api.Range, c int32) bool {
	return slices.ContainsFunc(set, func(r api.Range) bool { return r.Low <= c && c <= r.High })
}

// stretch reports whether low is in l, whose ranges do not end below it, and up to which number that stays so.
func stretch(l []api.Range, low int32) (in bool, high int32) {
	switch {
	case len(l) == 0:
		return false, math.MaxInt32
	case low < l[0].Low:
		return false, l[0].Low - 1
	}
	return true, l[0].High
}

// pieces produces the ranges into which a and b divide the numbers from 0 up to their last one, ascending, and whether they are in a, and in b.
func pieces(a, b []api.Range) iter.Seq2[api.Range, [2]bool] {
	return func(yield func(api.Range, [2]bool) bool) {
		leftA, leftB := a, b
		for low := int32(0); len(leftA) > 0 || len(leftB) > 0; {
			inA, highA := stretch(leftA, low)
			inB, highB := stretch(leftB, low)
			high := min(highA, highB)
			if !yield(api.Range{Low: low, High: high}, [2]bool{inA, inB}) {
				return
			}
			if inA && high == highA {
				leftA = leftA[1:]
			}
			if inB && high == highB {
				leftB = leftB[1:]
			}
			low = high + 1
		}
	}
}

// merged returns the set of the numbers that are wanted, which are all in a or in b.
func merged(a, b []api.Range, wanted func(inA, inB bool) bool) []api.Range {
	var l []api.Range
	for piece, in := range pieces(a, b) {
		last := len(l) - 1
		switch {
		case !wanted(in[0], in[1]):
		case last >= 0 && l[last].High+1 == piece.Low:
			l[last].High = piece.High
		default:
			l = append(l, piece)
		}
	}
	return l
}

func inOne(inA, inB bool) bool { return inA || inB }

func inBoth(inA, inB bool) bool { return inA && inB }

func inFirst(inA, inB bool) bool { return inA && !inB }

// others returns the characters that are not in a.
func others(a []api.Range) []api.Range { return merged(characters(), a, inFirst) }

// together returns the set of what is in one of the sets of l. It goes on by halves, because one after the other takes long if there are many.
func together(l [][]api.Range) []api.Range {
	if len(l) == 1 {
		return l[0]
	}
	half := len(l) / 2
	return merged(together(l[:half]), together(l[half:]), inOne)
}

// Union returns the set of the characters that are in a or in b.
func Union(a, b []api.Range) ([]api.Range, api.Errno) { return ofSets(a, b, inOne) }

// Meet returns the set of the characters that are in both a and b.
func Meet(a, b []api.Range) ([]api.Range, api.Errno) { return ofSets(a, b, inBoth) }

// Minus returns the set of the characters that are in a, but not in b.
func Minus(a, b []api.Range) ([]api.Range, api.Errno) { return ofSets(a, b, inFirst) }

// Not returns the set of the characters that are not in a.
func Not(a []api.Range) ([]api.Range, api.Errno) { return ofSets(characters(), a, inFirst) }

// ofSets returns the set of the characters of a and b that are wanted, or ErrArg if one of them is no set.
func ofSets(a, b []api.Range, wanted func(inA, inB bool) bool) ([]api.Range, api.Errno) {
	if !isSet(a) || !isSet(b) {
		return nil, api.ErrArg
	}
	return merged(a, b, wanted), api.OK
}
