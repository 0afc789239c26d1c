package regauto

import (
	"slices"

	"gabarit/api"
)

// minimal returns the minimal automaton with the words of a; or false if it has too many states.
func minimal(a api.Auto) (api.Auto, bool) {
	a = trim(a)
	p, ok := classes(a)
	if !ok {
		return api.Auto{}, false
	}
	// The state 0 must stand for itself, for at it the automaton begins.
	standsFor := func(state int) int {
		if p.group[state] == p.group[0] {
			return 0
		}
		return p.members(p.group[state])[0]
	}
	return states(a, standsFor).explore(api.MaxStates)
}

// trim returns a, numbered anew, without the states that no word reaches, and those from which none leads to a final one, but for the state 0.
func trim(a api.Auto) api.Auto {
	useful := leading(a)
	l, _ := states(a, func(state int) int {
		if useful[state] {
			return state
		}
		return nowhere
	}).explore(len(a.Final))
	return l
}

// backwards returns, for each state of a, the steps to it, each with the state that it comes from.
func backwards(a api.Auto) [][]api.Step {
	counts := make([]int, len(a.Final))
	for _, steps := range a.Steps {
		for _, step := range steps {
			counts[step.To]++
		}
	}
	l := make([][]api.Step, len(a.Final))
	for state, count := range counts {
		l[state] = make([]api.Step, 0, count)
	}
	for state, steps := range a.Steps {
		for _, step := range steps {
			l[step.To] = append(l[step.To], api.Step{Low: step.Low, High: step.High, To: state})
		}
	}
	return l
}

// leading tells from which states of a words lead to final ones.
func leading(a api.Auto) []bool {
	back := backwards(a)
	l := slices.Clone(a.Final)
	var open []int
	for state, final := range l {
		if final {
			open = append(open, state)
		}
	}
	for ; len(open) > 0; open = open[1:] {
		for _, step := range back[open[0]] {
			if !l[step.To] {
				l[step.To] = true
				open = append(open, step.To)
			}
		}
	}
	return l
}

// classes divides the states of a, which is trimmed, into groups of those from which the same words lead to final ones; or returns false if there are too many groups.
func classes(a api.Auto) (*partition, bool) {
	p := newPartition(len(a.Final))
	for state, final := range a.Final {
		if final {
			p.mark(state)
		}
	}
	p.split()
	back := backwards(a)
	letters := alphabetOf(rangesOf(a))
	from := make([][]int, letters.count())
	// By a letter, all states of a group must lead to one group, or nowhere. It is enough to look once at each group as it is at that time: if it is split later, the smaller part, which has a new number, tells all that is new.
	for group := 0; group < len(p.groups); group++ {
		for _, state := range p.members(group) {
			for _, step := range back[state] {
				for letter := range letters.of(api.Range{Low: step.Low, High: step.High}) {
					from[letter] = append(from[letter], step.To)
				}
			}
		}
		for letter, l := range from {
			for _, state := range l {
				p.mark(state)
			}
			p.split()
			from[letter] = l[:0]
		}
		if len(p.groups) > api.MaxStates {
			return nil, false
		}
	}
	return p, true
}
