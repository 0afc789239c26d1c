package regauto

import (
	"iter"
	"math"
	"slices"

	"gabarit/api"
)

// nowhere is in place of a state where no step leads on.
const nowhere = -1

// automaton is one whose states stand for values: the state at which it begins, the steps from a state on, ascending, and whether a state is final.
type automaton[S comparable] struct {
	first S
	steps func(state S) iter.Seq2[api.Range, S]
	final func(state S) bool
}

// explore returns g with its states numbered in the order in which a breadth-first search finds them, and with neighbouring steps to one state as one step; or false if more than so many states are found.
func (g automaton[S]) explore(most int) (api.Auto, bool) {
	var a api.Auto
	var steps []api.Step
	found := []S{g.first}
	numbers := map[S]int{g.first: 0}
	for i := 0; i < len(found); i++ {
		steps = steps[:0]
		for r, state := range g.steps(found[i]) {
			to, ok := numbers[state]
			if !ok {
				to = len(found)
				numbers[state] = to
				found = append(found, state)
			}
			steps = withStep(steps, r, to)
		}
		if len(found) > most {
			return api.Auto{}, false
		}
		a.Final = append(a.Final, g.final(found[i]))
		a.Steps = append(a.Steps, slices.Clone(steps))
	}
	return a, true
}

// withStep returns steps with one more behind them, which becomes one with the last of them if it is its neighbour and leads to the same state.
func withStep(steps []api.Step, r api.Range, to int) []api.Step {
	last := len(steps) - 1
	if last >= 0 && steps[last].High+1 == r.Low && steps[last].To == to {
		steps[last].High = r.High
		return steps
	}
	return append(steps, api.Step{Low: r.Low, High: r.High, To: to})
}

// states returns the automaton a, where another state may stand for a state, or nowhere.
func states(a api.Auto, standsFor func(state int) int) automaton[int] {
	steps := func(state int) iter.Seq2[api.Range, int] {
		return func(yield func(api.Range, int) bool) {
			for _, step := range a.Steps[state] {
				to := standsFor(step.To)
				if to != nowhere && !yield(api.Range{Low: step.Low, High: step.High}, to) {
					return
				}
			}
		}
	}
	return automaton[int]{0, steps, func(state int) bool { return a.Final[state] }}
}

// pair is a state of each of two automata, or nowhere.
type pair [2]int

// sideBySide returns the automaton, not minimal, of the words that are wanted, by whether a and b have them.
func sideBySide(a, b api.Auto, wanted func(inA, inB bool) bool) api.Auto {
	stepsOf := func(l api.Auto, state int) []api.Step {
		if state == nowhere {
			return nil
		}
		return l.Steps[state]
	}
	finalIn := func(l api.Auto, state int) bool { return state != nowhere && l.Final[state] }
	pairs := automaton[pair]{
		first: pair{0, 0},
		steps: func(p pair) iter.Seq2[api.Range, pair] { return stepsOfTwo(stepsOf(a, p[0]), stepsOf(b, p[1])) },
		final: func(p pair) bool { return wanted(finalIn(a, p[0]), finalIn(b, p[1])) },
	}
	both, _ := pairs.explore(math.MaxInt)
	return both
}

// stepsOfTwo produces the ranges into which the steps of two states divide each other, ascending, and where both lead; where neither leads on, nothing.
func stepsOfTwo(a, b []api.Step) iter.Seq2[api.Range, pair] {
	return func(yield func(api.Range, pair) bool) {
		for i, k, low := 0, 0, int32(0); i < len(a) || k < len(b); {
			toA, highA := stretch(a[i:], low)
			toB, highB := stretch(b[k:], low)
			high := min(highA, highB)
			to := pair{toA, toB}
			if to != (pair{nowhere, nowhere}) && !yield(api.Range{Low: low, High: high}, to) {
				return
			}
			if toA != nowhere && high == highA {
				i++
			}
			if toB != nowhere && high == highB {
				k++
			}
			low = high + 1
		}
	}
}

// stretch returns where steps, which do not end below low, lead from low, and up to which number that stays so.
func stretch(steps []api.Step, low int32) (to int, high int32) {
	switch {
	case len(steps) == 0:
		return nowhere, math.MaxInt32
	case low < steps[0].Low:
		return nowhere, steps[0].Low - 1
	}
	return steps[0].To, steps[0].High
}
