package regauto_test

import (
	"math/rand/v2"
	"slices"
	"testing"

	"gabarit/api"
	"gabarit/regauto"
)

// steep is an automaton with n different ends, of an even number, in states that have at most so many steps.
func steep(ends, most int) api.Auto {
	var a api.Auto
	for from := int32(100); ends > 0; {
		n := min(most, ends/2)
		a.Final = append(a.Final, false)
		a.Steps = append(a.Steps, singles(from, n, 0))
		from += 2 * int32(n)
		ends -= 2 * n
	}
	return a
}

// large are automata that are larger than they may be; some of them are not valid either.
func large() []api.Auto {
	crowded := fan(100, 1001)
	wrong := fan(100, 1001)
	wrong.Steps[0][7].To = 99
	steep2 := steep(4002, 1000)
	steep2.Steps[1][3].High = 5
	many := make([][]api.Step, 500)
	for i := range many {
		many[i] = singles(100+3000*int32(i%10), 1000, i)
	}
	return []api.Auto{
		chain(500), multiples(501), padded(none(), 500), {Final: make([]bool, 501)}, {Final: make([]bool, 501), Steps: [][]api.Step{steps("b..a>0")}}, {Final: make([]bool, 5000000)},
		crowded, wrong, {Final: []bool{true}, Steps: [][]api.Step{make([]api.Step, 1001)}}, {Final: []bool{true}, Steps: [][]api.Step{slices.Repeat(steps("a>0"), 1001)}},
		steep(4002, 1000), steep(4002, 8), steep2, {Final: make([]bool, 500), Steps: many},
	}
}

// notValid are automata that are not too large, but not valid.
func notValid() []api.Auto {
	l := []api.Auto{
		{}, {Final: []bool{}, Steps: [][]api.Step{}}, {Final: []bool{true}}, {Final: []bool{true, true}, Steps: [][]api.Step{nil}}, {Final: []bool{true}, Steps: [][]api.Step{nil, nil}}, {Steps: [][]api.Step{nil}}, {Final: make([]bool, 500), Steps: make([][]api.Step, 499)}, {Final: make([]bool, 500), Steps: make([][]api.Step, 501)}, {Steps: make([][]api.Step, 100000)},
		{Final: []bool{true}, Steps: [][]api.Step{make([]api.Step, 1000)}},
	}
	for _, state := range []string{
		"b..a>0", "#8..#8>0", "#8..#9>0", "#9..#11>0", "#9..#13>0", "#11..#11>0", "#12..#13>0", "#13..#14>0", "#14..#14>0", "#31..#31>0", "#31..#32>0", "#13..#32>0", "#0..#0>0", "#-1..#-1>0", "#-5..a>0", "#-2147483648..#2147483647>0", "#2147483647..#2147483647>0", "#1073741824..#-2147483648>0",
		"#55295..#55296>0", "#55296..#55296>0", "#57343..#57343>0", "#57343..#57344>0", "#32..#57344>0", "#65533..#65534>0", "#65534..#65534>0", "#65535..#65536>0", "#65533..#65536>0", "#1114111..#1114112>0", "#1114112..#1114112>0", "#9..#1114111>0",
		"a>0 a>0", "a>0 a>1", "a..c>0 c>0", "a..c>0 b>1", "a..c>0 c..d>1", "b>0 a>0", "a>0 c>0 b>0", "a..z>0 c..d>1", "a>0 b..c>0 c>0", "#10..#10>0 #9..#9>0",
		"a>2", "a>-1", "a>0 b>2", "a>1 c>9223372036854775807", "a>-9223372036854775808", "a>500", "a>1 b>0 c>-2",
	} {
		l = append(l, auto("!"+state, ""), auto("a>1", state), auto("a>1", "!"+state))
	}
	return l
}

// atLimits are valid automata that are as large as they may be.
func atLimits() []api.Auto {
	many := make([][]api.Step, 500)
	for i := range many {
		many[i] = singles(100+2000*int32(i%2), 1000, 499-i)
	}
	return []api.Auto{chain(499), multiples(500), padded(none(), 499), fan(100, 1000), steep(4000, 1000), steep(4000, 4), {Final: make([]bool, 500), Steps: many}, cycle(500, func(rest int) bool { return true })}
}

// P8.1: ErrLong, whether the automaton is valid or not; then ErrArg; otherwise OK.
func TestCheck(t *testing.T) {
	for i, a := range large() {
		if e := regauto.Check(a); e != api.ErrLong || !isLarge(a) {
			t.Errorf("large %d: %d", i, e)
		}
	}
	for _, a := range notValid() {
		if e := regauto.Check(a); e != api.ErrArg || isLarge(a) || isValid(a) {
			t.Errorf("not valid: %d, %s", e, show(a))
		}
	}
	for i, a := range atLimits() {
		if e := regauto.Check(a); e != api.OK || isLarge(a) || !isValid(a) {
			t.Errorf("at its limits %d: %d", i, e)
		}
	}
	for _, a := range []api.Auto{
		none(), all(), auto("!"), auto("a>0"), auto("", "a>0"), auto("a>0 b>0 c..d>0"), auto("a>0 c>0 e>1", "!"), auto("a>1 b>1", "!a>1", "a>0"), auto("#9..#9>0 #10..#10>0 #13..#13>0 #32..#55295>0 #57344..#57344>0 #57345..#65533>0 #65536..#1114110>0 #1114111..#1114111>0"),
	} {
		if e := regauto.Check(a); e != api.OK || !isValid(a) {
			t.Errorf("valid: %d, %s", e, show(a))
		}
	}
}

// P8.1: what counts as an end, and what does not.
func TestCheckEnds(t *testing.T) {
	most := steep(4000, 1000)
	for _, c := range []struct {
		more string
		e    api.Errno
	}{
		{"", api.OK}, {"#9..#10>0 #13..#13>0 #32..#55295>0 #57344..#65533>0 #65536..#1114111>0", api.OK}, {"#100..#100>0", api.OK}, {"#32..#100>0", api.OK}, {"#100..#4098>0", api.OK}, {"#100..#55295>0", api.OK}, {"#101..#101>0", api.OK}, {"#65536..#1114111>0", api.OK},
		{"#100..#4099>0", api.ErrLong}, {"#99..#100>0", api.ErrLong}, {"#10..#10>0", api.ErrLong}, {"#9..#9>0", api.ErrLong}, {"#32..#32>0", api.ErrLong}, {"#33..#55295>0", api.ErrLong}, {"#57344..#57344>0", api.ErrLong}, {"#57345..#65533>0", api.ErrLong}, {"#65537..#1114111>0", api.ErrLong}, {"#1114111..#1114111>0", api.ErrLong},
		{"#9..#13>0", api.ErrArg}, {"#11..#12>0", api.ErrArg}, {"#11..#13>0", api.ErrArg}, {"#14..#31>0", api.ErrArg}, {"#55296..#57343>0", api.ErrArg}, {"#65534..#65535>0", api.ErrArg}, {"#9..#1114111>0", api.ErrArg}, {"#102..#99>0", api.ErrArg}, {"#100..#99>0", api.ErrArg},
		{"#12..#13>0", api.ErrLong}, {"#0..#10>0", api.ErrLong}, {"#-1..#10>0", api.ErrLong}, {"#9..#1114112>0", api.ErrLong},
	} {
		a := padded(most, 1)
		a.Steps[len(a.Steps)-1] = steps(c.more)
		if e := regauto.Check(a); e != c.e {
			t.Errorf("4000 ends and %s: %d, want %d", c.more, e, c.e)
		}
	}
	// A step up to the highest number of 32 bits has ended behind it, not at the lowest one.
	a := padded(steep(3998, 1000), 1)
	for more, want := range map[string]api.Errno{"#-2147483648..#99>0 #100..#2147483647>0": api.ErrArg, "#-2147483648..#99>0 #100..#2147483647>0 #10..#99>0": api.ErrLong} {
		a.Steps[len(a.Steps)-1] = steps(more)
		if e := regauto.Check(a); e != want {
			t.Errorf("3998 ends and %s: %d, want %d", more, e, want)
		}
	}
}

// spoiled is a copy of an automaton in which something may be wrong.
func spoiled(r *rand.Rand, a api.Auto) api.Auto {
	b := api.Auto{Final: slices.Clone(a.Final)}
	for _, l := range a.Steps {
		b.Steps = append(b.Steps, slices.Clone(l))
	}
	state := r.IntN(len(b.Steps))
	if len(b.Steps[state]) == 0 {
		b.Steps[state] = steps("a>0")
	}
	step := &b.Steps[state][r.IntN(len(b.Steps[state]))]
	switch r.IntN(6) {
	case 0:
		step.To = oneOf(r, -1, len(b.Final), len(b.Final)-1, 0)
	case 1:
		step.Low += oneOf[int32](r, -1, 1, -20, 20)
	case 2:
		step.High += oneOf[int32](r, -1, 1, -20, 20)
	case 3:
		b.Final = append(b.Final, true)
	case 4:
		b.Steps = append(b.Steps, nil)
	case 5:
		b.Steps[state] = append(b.Steps[state], *step)
	}
	return b
}

// P8.1: random automata, valid and not.
func TestCheckRandom(t *testing.T) {
	valid := 0
	randoms(t, 10000, func(r *rand.Rand) {
		a := spoiled(r, randomAuto(r))
		want := api.ErrArg
		if isValid(a) {
			want = api.OK
			valid++
		}
		if e := regauto.Check(a); e != want {
			t.Errorf("Check: %d, want %d, of %v", e, want, a)
		}
	})
	if valid < 1000 || valid > 9000 {
		t.Errorf("%d are valid", valid)
	}
}
