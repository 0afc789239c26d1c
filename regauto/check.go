package regauto

import (
	"iter"
	"slices"

	"gabarit/api"
	"gabarit/regex"
)

// maxSteps is how many steps a state has at most.
const maxSteps = 1000

// Check returns ErrLong if a is too large, then ErrArg if it is not valid.
func Check(a api.Auto) api.Errno {
	crowded := func(steps []api.Step) bool { return len(steps) > maxSteps }
	if len(a.Final) > api.MaxStates || slices.ContainsFunc(a.Steps, crowded) || countEnds(rangesOf(a)) > api.MaxCuts {
		return api.ErrLong
	}
	if !valid(a) {
		return api.ErrArg
	}
	return api.OK
}

// valid reports whether a, which is not too large, is valid.
func valid(a api.Auto) bool {
	if len(a.Final) == 0 || len(a.Steps) != len(a.Final) {
		return false
	}
	all := characters()
	for _, steps := range a.Steps {
		for i, step := range steps {
			inside := func(block api.Range) bool {
				return block.Low <= step.Low && step.Low <= step.High && step.High <= block.High
			}
			if !slices.ContainsFunc(all, inside) || i > 0 && step.Low <= steps[i-1].High {
				return false
			}
			if step.To < 0 || step.To >= len(a.Final) {
				return false
			}
		}
	}
	return true
}

// checkBoth returns the error of a, that of b, or ErrLong if they are too large together.
func checkBoth(a, b api.Auto) api.Errno {
	if e := Check(a); e != api.OK {
		return e
	}
	if e := Check(b); e != api.OK {
		return e
	}
	if (len(a.Final)+1)*(len(b.Final)+1)*(countEnds(rangesOf(a, b))+5) > api.MaxProduct {
		return api.ErrLong
	}
	return api.OK
}

// characters returns the set of all characters.
func characters() []api.Range {
	all, _ := regex.Not(nil)
	return all
}

// rangesOf produces the ranges of the steps of some automata.
func rangesOf(l ...api.Auto) iter.Seq[api.Range] {
	return func(yield func(api.Range) bool) {
		for _, a := range l {
			for _, steps := range a.Steps {
				for _, step := range steps {
					if !yield(api.Range{Low: step.Low, High: step.High}) {
						return
					}
				}
			}
		}
	}
}

// cuts returns the numbers at which ranges begin or have ended. They are wider than those of characters: a range that is not valid may have ended behind the highest int32.
func cuts(ranges iter.Seq[api.Range]) map[int64]bool {
	l := map[int64]bool{}
	for r := range ranges {
		l[int64(r.Low)] = true
		l[int64(r.High)+1] = true
	}
	return l
}

// countEnds returns how many different ends ranges have; where all characters begin or have ended is none.
func countEnds(ranges iter.Seq[api.Range]) int {
	l := cuts(ranges)
	for end := range cuts(slices.Values(characters())) {
		delete(l, end)
	}
	return len(l)
}
