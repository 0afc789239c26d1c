package regex_test

import (
	"math/rand/v2"
	"testing"

	"gabarit/api"
	"gabarit/regex"
)

// atLimits are valid expressions that are as large as small ones may be.
func atLimits() []api.Regex {
	a := char('a')
	again := func(x api.Regex) api.Regex { return times(0, 1, x) }
	branch := func(x api.Regex) api.Regex { return alt(x, a) }
	return []api.Regex{
		seq(many(199, a)...), alt(many(199, empty())...), times(1, 1, seq(many(198, a)...)), seq(seq(many(99, a)...), alt(many(98, a)...)),
		nested(20, again), nested(20, branch), seq(a, nested(19, again)), alt(nested(19, branch), a), {Kind: api.RxSet, Set: gaps(200)}, seq(many(199, api.Regex{Kind: api.RxSet, Set: gaps(200)})...),
	}
}

// P7.1: ErrLong, whether the expression is valid or not; then ErrArg; otherwise OK.
func TestCheck(t *testing.T) {
	for i, x := range large() {
		if e := regex.Check(x); e != api.ErrLong {
			t.Errorf("large %d: %d", i, e)
		}
	}
	for i, x := range notValid() {
		if e := regex.Check(x); e != api.ErrArg {
			t.Errorf("not valid %d: %d, %v", i, e, x)
		}
	}
	for i, x := range atLimits() {
		if e := regex.Check(x); e != api.OK {
			t.Errorf("at its limits %d: %d", i, e)
		}
	}
	for _, x := range atLimits()[:8] {
		x.Args[0] = api.Regex{Kind: 77}
		if e := regex.Check(x); e != api.ErrArg {
			t.Errorf("at its limits, but not valid: %d", e)
		}
	}
}

// P7.1: the table.
func TestCheckTable(t *testing.T) {
	a := char('a')
	for _, x := range []api.Regex{
		empty(), a, of(9, 10, 13, 13, 32, 55295, 57344, 65533, 65536, 1114111), of(9, 9), of(10, 10), of(9, 10), of(32, 32, 34, 34), of(55295, 55295, 57344, 57344), of(65533, 65533, 65536, 65536), of(10, 10, 13, 13), of(1114111, 1114111),
		seq(a, a), alt(a, a), seq(empty(), empty()), alt(a, empty(), a), times(0, 1, a), times(0, -1, a), times(1, -1, a), times(50, -1, a), times(1, 1, a), times(50, 50, a), times(0, 50, a), times(49, 50, a), times(1, 50, empty()), times(2, 3, times(0, -1, seq(a, alt(a, a)))),
	} {
		if e := regex.Check(x); e != api.OK {
			t.Errorf("Check(%v): %d", x, e)
		}
	}
	for low := -2; low <= 52; low++ {
		for high := -3; high <= 52; high++ {
			x := times(low, high, a)
			if e := regex.Check(x); (e == api.OK) != isValid(x) || e != api.OK && e != api.ErrArg {
				t.Errorf("Check of %d to %d times: %d", low, high, e)
			}
		}
	}
}

// P7.1: random expressions, in which something is changed at random.
func TestCheckRandom(t *testing.T) {
	a := char('a')
	randoms(t, 20000, func(r *rand.Rand) {
		x := randomRegex(r, 5, 50)
		if r.IntN(5) > 0 {
			change(r, &x, a)
		}
		want := api.OK
		if !isSmall(x) {
			want = api.ErrLong
		} else if !isValid(x) {
			want = api.ErrArg
		}
		if e := regex.Check(x); e != want {
			t.Errorf("Check(%v): %d, want %d", x, e, want)
		}
	})
}

// change changes something in x, or in an expression in it.
func change(r *rand.Rand, x *api.Regex, a api.Regex) {
	for len(x.Args) > 0 && r.IntN(3) > 0 {
		x = &x.Args[r.IntN(len(x.Args))]
	}
	number := oneOf(r, -2, -1, 0, 1, 2, 50, 51, 1<<40)
	switch r.IntN(7) {
	case 0:
		x.Kind = oneOf(r, 0, 1, 2, 3, 4, 5, 6, -1)
	case 1:
		x.Low = number
	case 2:
		x.High = number
	case 3:
		x.Set = append(x.Set, api.Range{Low: oneOf(r, someCharacters...), High: oneOf(r, someCharacters...)})
	case 4:
		x.Args = append(x.Args, many(oneOf(r, 1, 2, 200), a)...)
	case 5:
		x.Args = x.Args[:len(x.Args)/2]
	case 6:
		if len(x.Set) > 0 {
			i := r.IntN(len(x.Set))
			*oneOf(r, &x.Set[i].Low, &x.Set[i].High) += oneOf[int32](r, -1, 1, 2, -30, 1000)
		}
	}
}
