package regauto

import (
	"iter"
	"maps"
	"slices"

	"gabarit/api"
)

// alphabet is the letters into which ranges divide the characters: each range consists of whole letters.
type alphabet struct {
	begin  []int64       // where the letters begin, ascending; behind the last one, where it has ended
	number map[int64]int // which letter begins there
}

func alphabetOf(ranges iter.Seq[api.Range]) alphabet {
	begin := slices.Sorted(maps.Keys(cuts(ranges)))
	number := map[int64]int{}
	for i, c := range begin {
		number[c] = i
	}
	return alphabet{begin, number}
}

// count returns how many letters there are.
func (l alphabet) count() int { return max(0, len(l.begin)-1) }

// letter returns the characters of a letter.
func (l alphabet) letter(i int) api.Range {
	return api.Range{Low: int32(l.begin[i]), High: int32(l.begin[i+1] - 1)}
}

// of produces the letters of which a range consists.
func (l alphabet) of(r api.Range) iter.Seq[int] {
	return func(yield func(int) bool) {
		for i := l.number[int64(r.Low)]; l.begin[i] <= int64(r.High); i++ {
			if !yield(i) {
				return
			}
		}
	}
}
