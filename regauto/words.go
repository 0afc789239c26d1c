package regauto

import (
	"iter"
	"slices"

	"gabarit/api"
	"gabarit/chars"
)

// longestWord is how many characters a word of a list of words has at most.
const longestWord = 200

// text returns the text of a word of characters.
func text(word []int32) string {
	s, _ := chars.Encode(word)
	return s
}

// first returns the first word of a, whose states are numbered as a breadth-first search finds them; or false if there is none.
func first(a api.Auto) ([]int32, bool) {
	state := slices.Index(a.Final, true)
	if state < 0 {
		return nil, false
	}
	// As steps are gone through in order, a state is found by the first of the shortest words that reach it.
	found := make([]api.Step, len(a.Final))
	for from, steps := range a.Steps {
		for _, step := range steps {
			if found[step.To] == (api.Step{}) {
				found[step.To] = api.Step{Low: step.Low, High: step.High, To: from}
			}
		}
	}
	var word []int32
	for ; state != 0; state = found[state].To {
		word = append(word, found[state].Low)
	}
	slices.Reverse(word)
	return word, true
}

// longest returns how many characters the longest word of a has, which is trimmed and has words; unlimited if there is none.
func longest(a api.Auto) int {
	const unknown = -2
	known := slices.Repeat([]int{unknown}, len(a.Final))
	var from func(state int) int
	from = func(state int) int {
		if known[state] != unknown {
			return known[state]
		}
		// A way back to here could be gone again and again.
		known[state] = unlimited
		most := 0
		for _, step := range a.Steps[state] {
			n := from(step.To)
			if n == unlimited {
				return unlimited
			}
			most = max(most, n+1)
		}
		known[state] = most
		return most
	}
	return from(0)
}

// words produces the words of a, in order, that are not too long to be listed.
func words(a api.Auto) iter.Seq[[]int32] {
	return func(yield func([]int32) bool) {
		// ends[n] tells from which states words of n characters lead to final ones.
		ends := [][]bool{a.Final}
		var word []int32
		var spell func(state, left int) bool
		spell = func(state, left int) bool {
			if left == 0 {
				return yield(word)
			}
			for _, step := range a.Steps[state] {
				if !ends[left-1][step.To] {
					continue
				}
				for c := step.Low; c <= step.High; c++ {
					word = append(word, c)
					if !spell(step.To, left-1) {
						return false
					}
					word = word[:len(word)-1]
				}
			}
			return true
		}
		for n := range longestWord + 1 {
			if ends[n][0] && !spell(0, n) {
				return
			}
			ends = append(ends, oneBefore(a, ends[n]))
		}
	}
}

// oneBefore tells from which states of a one step leads to one of some states.
func oneBefore(a api.Auto, states []bool) []bool {
	l := make([]bool, len(states))
	for state, steps := range a.Steps {
		l[state] = slices.ContainsFunc(steps, func(step api.Step) bool { return states[step.To] })
	}
	return l
}
