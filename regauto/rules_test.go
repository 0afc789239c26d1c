package regauto_test

import (
	"fmt"
	"math/rand/v2"
	"reflect"
	"slices"
	"strings"
	"sync"
	"testing"

	"gabarit/api"
	"gabarit/regauto"
	"gabarit/regex"
)

// arguments are those of the functions of the package.
type arguments struct {
	x    api.Regex
	a, b api.Auto
	s    string
	most int
}

func (g arguments) String() string {
	text, e := regex.Print(g.x)
	return fmt.Sprintf("%.100q (%d), %s, %s, %.100q, %d", text, e, show(g.a), show(g.b), g.s, g.most)
}

// result is what a function returns: all results but the error, lists without memory as nil, and the error.
type result struct {
	what   string
	values []any
	e      api.Errno
}

// results calls every function of the package.
func results(g arguments) []result {
	l := []result{{"Check", nil, regauto.Check(g.a)}}
	add := func(what string, e api.Errno, values ...any) { l = append(l, result{what, values, e}) }
	x, e := regauto.Make(g.x)
	add("Make", e, nils(x))
	yes, e := regauto.Run(g.a, g.s)
	add("Run", e, yes)
	yes, e = regauto.Empty(g.a)
	add("Empty", e, yes)
	word, e := regauto.Shortest(g.a)
	add("Shortest", e, word)
	for _, p := range operations {
		a, e := p.f(g.a, g.b)
		add(p.what, e, nils(a))
	}
	yes, word, e = regauto.Includes(g.a, g.b)
	add("Includes", e, yes, word)
	add("Same", api.OK, regauto.Same(g.a, g.b))
	least, most, e := regauto.Length(g.a)
	add("Length", e, least, most)
	words, e := regauto.Words(g.a, g.most)
	add("Words", e, append([]string(nil), words...))
	return l
}

// nils is a copy of a with nil where lists are empty.
func nils(a api.Auto) api.Auto {
	b := api.Auto{Final: append([]bool(nil), a.Final...)}
	for _, steps := range a.Steps {
		b.Steps = append(b.Steps, append([]api.Step(nil), steps...))
	}
	return b
}

// randomArguments are arguments of which some are not valid.
func randomArguments(t *testing.T, r *rand.Rand) arguments {
	g := arguments{parse(t, randomText(r, 1+r.IntN(3))), randomAuto(r), randomAuto(r), "", r.IntN(101)}
	for range r.IntN(6) {
		g.s += oneOf(r, "a", "b", "c", "\t", "\U0010ffff")
	}
	switch r.IntN(8) {
	case 0:
		g.x = api.Regex{Kind: r.IntN(7), Args: slices.Repeat([]api.Regex{{Kind: api.RxEmpty}}, r.IntN(3))}
	case 1:
		g.a = spoiled(r, g.a)
	case 2:
		g.b = spoiled(r, g.b)
	case 3:
		bad := notValid()
		*oneOf(r, &g.a, &g.b) = bad[r.IntN(len(bad))]
	case 4:
		g.s += oneOf(r, "\xff", "\x00", "\x0b")
	case 5:
		g.most = oneOf(r, -1, 101)
	}
	return g
}

// firstError is the error with which every function begins that is given these automata.
func firstError(l ...api.Auto) api.Errno {
	for _, a := range l {
		if e := regauto.Check(a); e != api.OK {
			return e
		}
	}
	return api.OK
}

// wanted is the error that a function must return for these arguments, of which no two automata are too large together, and no results too large.
func wanted(what string, g arguments) api.Errno {
	switch what {
	case "Make":
		return regex.Check(g.x)
	case "Meet", "Join", "Minus", "Includes":
		return firstError(g.a, g.b)
	case "Same":
		return api.OK
	}
	e := firstError(g.a)
	_, some := "", true
	if e == api.OK {
		_, some = firstWord([]api.Auto{g.a}, func(in []bool) bool { return in[0] })
	}
	switch {
	case e != api.OK:
		return e
	case what == "Run" && strings.ContainsAny(g.s, "\xff\x00\x0b"):
		return api.ErrForm
	case (what == "Shortest" || what == "Length") && !some:
		return api.ErrNone
	case what == "Words" && (g.most < 0 || g.most > 100):
		return api.ErrArg
	}
	return api.OK
}

// R1, R2, R8: for all arguments, every function returns; the error that is named first; with an error, all other results are zero; without one, automata are valid.
func TestAllArguments(t *testing.T) {
	check := func(g arguments, exactly bool) {
		for _, x := range results(g) {
			if exactly && x.e != wanted(x.what, g) {
				t.Errorf("%s(%v): the error %d, want %d", x.what, g, x.e, wanted(x.what, g))
			}
			if x.what == "Same" && firstError(g.a, g.b) != api.OK && x.values[0] != false {
				t.Errorf("Same(%v): true", g)
			}
			for _, v := range x.values {
				if x.e != api.OK && !reflect.ValueOf(v).IsZero() {
					t.Errorf("%s(%v): %v with the error %d", x.what, g, v, x.e)
				}
				if a, ok := v.(api.Auto); ok && x.e == api.OK && (isLarge(a) || !isValid(a)) {
					t.Errorf("%s(%v): %s is not valid", x.what, g, show(a))
				}
			}
		}
	}
	texts := []string{"", "a", "\xff", "\x00", strings.Repeat("a", 10000)}
	autos := slices.Concat(large(), notValid(), []api.Auto{none(), all(), chain(3), fan(300, 20)})
	for i, a := range autos {
		for _, b := range []api.Auto{autos[(i*7+3)%len(autos)], all(), none(), autos[0], autos[len(large())]} {
			g := arguments{api.Regex{}, a, b, texts[i%len(texts)], i%103 - 1}
			check(g, false)
			for _, p := range pairs {
				if _, e := p.f(a, b); e != firstError(a, b) {
					t.Errorf("%s(%s, %s): %d, want %d", p.what, show(a), show(b), e, firstError(a, b))
				}
			}
			if _, _, e := regauto.Includes(a, b); e != firstError(a, b) {
				t.Errorf("Includes(%s, %s): %d, want %d", show(a), show(b), e, firstError(a, b))
			}
		}
	}
	for i, a := range atLimits() {
		check(arguments{api.Regex{Kind: api.RxEmpty}, a, atLimits()[(i+3)%8], texts[i%len(texts)], 100}, false)
	}
	randoms(t, 1500, func(r *rand.Rand) { check(randomArguments(t, r), true) })
}

// R3: arguments are not changed, nor what they hold behind the ends of their lists.
func TestArgumentsStay(t *testing.T) {
	extended := func(a api.Auto) api.Auto {
		b := api.Auto{Final: append(slices.Clone(a.Final), true, true)[:len(a.Final)]}
		for _, l := range a.Steps {
			b.Steps = append(b.Steps, append(slices.Clone(l), api.Step{Low: 7, High: 7, To: 7}, api.Step{Low: 8, High: 8, To: 8})[:len(l)])
		}
		b.Steps = append(b.Steps, steps("a>9"))[:len(a.Steps)]
		return b
	}
	whole := func(a api.Auto) api.Auto {
		b := api.Auto{Final: slices.Clone(a.Final[:cap(a.Final)])}
		for _, l := range a.Steps[:cap(a.Steps)] {
			b.Steps = append(b.Steps, slices.Clone(l[:cap(l)]))
		}
		return b
	}
	randoms(t, 1500, func(r *rand.Rand) {
		g := randomArguments(t, r)
		g.a, g.b = extended(g.a), extended(g.b)
		a, b := whole(g.a), whole(g.b)
		text, _ := regex.Print(g.x)
		results(g)
		if again, _ := regex.Print(g.x); !reflect.DeepEqual(whole(g.a), a) || !reflect.DeepEqual(whole(g.b), b) || again != text {
			t.Errorf("changed: %v", g)
		}
	})
}

// spoil overwrites all memory that a holds, up to the capacities of its lists.
func spoil(a api.Auto) {
	for _, l := range a.Steps[:cap(a.Steps)] {
		spoilSteps(l)
	}
	final := a.Final[:cap(a.Final)]
	for i := range final {
		final[i] = !final[i]
	}
}

func spoilSteps(l []api.Step) {
	l = l[:cap(l)]
	for i := range l {
		l[i] = api.Step{Low: -7, High: -8, To: -9}
	}
}

// R3: results are new memory, and no two lists of one result share memory.
func TestResultsAreNew(t *testing.T) {
	randoms(t, 1000, func(r *rand.Rand) {
		g := randomArguments(t, r)
		want := results(g)
		made, _ := regauto.Make(g.x)
		autos := []api.Auto{made}
		for _, p := range operations {
			a, _ := p.f(g.a, g.b)
			autos = append(autos, a)
		}
		for _, a := range autos {
			for i := range a.Steps {
				was := nils(a)
				kept := slices.Clone(a.Steps[i])
				spoilSteps(a.Steps[i])
				copy(a.Steps[i], kept)
				if !same(nils(a), was) {
					t.Errorf("%v: the steps of %d share memory with others", g, i)
				}
			}
			spoil(a)
		}
		words, _ := regauto.Words(g.a, g.most)
		for i := range words {
			words[i] = "spoiled"
		}
		if again := results(g); !reflect.DeepEqual(again, want) {
			t.Errorf("%v: %v, then %v", g, want, again)
		}
	})
}

// R4: a list may be nil or empty.
func TestNilOrEmpty(t *testing.T) {
	emptied := func(a api.Auto) api.Auto {
		b := api.Auto{Final: append([]bool{}, a.Final...), Steps: [][]api.Step{}}
		for _, l := range a.Steps {
			b.Steps = append(b.Steps, append([]api.Step{}, l...))
		}
		return b
	}
	randoms(t, 1000, func(r *rand.Rand) {
		g := randomArguments(t, r)
		h := g
		g.a, g.b = nils(g.a), nils(g.b)
		h.a, h.b = emptied(g.a), emptied(g.b)
		if x, y := results(g), results(h); !reflect.DeepEqual(x, y) {
			t.Errorf("%v: %v, with empty lists %v", g, x, y)
		}
	})
}

// R6: results depend only on the arguments, whatever else is called before, or at the same time.
func TestSameAgain(t *testing.T) {
	var all []arguments
	var want [][]result
	randoms(t, 500, func(r *rand.Rand) {
		g := randomArguments(t, r)
		all = append(all, g)
		want = append(want, results(g))
	})
	var group sync.WaitGroup
	for range 4 {
		group.Go(func() {
			for i := len(all) - 1; i >= 0; i-- {
				g := all[i]
				g.a, g.b = nils(g.a), nils(g.b)
				if again := results(g); !reflect.DeepEqual(again, want[i]) {
					t.Errorf("%v: %v, then %v", g, want[i], again)
				}
			}
		})
	}
	group.Wait()
}

// R7: inputs that are large.
func TestLarge(t *testing.T) {
	huge := strings.Repeat("a", 20000000)
	if yes, e := regauto.Run(multiples(500), huge); !yes || e != api.OK {
		t.Errorf("Run with %d bytes: %v, %d", len(huge), yes, e)
	}
	if yes, e := regauto.Run(multiples(499), huge+"\xff"); yes || e != api.ErrForm {
		t.Errorf("Run with %d bytes: %v, %d", len(huge), yes, e)
	}
	many := api.Auto{Final: make([]bool, 3), Steps: slices.Repeat([][]api.Step{steps("a>0 b>1")}, 5000000)}
	if e := regauto.Check(many); e != api.ErrArg {
		t.Errorf("Check with %d lists of steps: %d", len(many.Steps), e)
	}
	many.Final = make([]bool, 5000000)
	if e := regauto.Check(many); e != api.ErrLong {
		t.Errorf("Check with %d states: %d", len(many.Steps), e)
	}
	// As many pairs of states and letters as there may be: most of them are reached, and no two of them are the same.
	r := rand.New(rand.NewPCG(1, 2))
	dense := func() api.Auto {
		var a api.Auto
		for range 300 {
			a.Final = append(a.Final, r.IntN(2) == 0)
			var l []api.Step
			for c := range int32(30) {
				l = append(l, api.Step{Low: 300 + c, High: 300 + c, To: r.IntN(300)})
			}
			a.Steps = append(a.Steps, l)
		}
		return a
	}
	a, b := dense(), dense()
	for _, p := range pairs {
		if got, e := p.f(a, b); e != api.ErrLong || !isNothing(got) {
			t.Errorf("%s of %d and %d states: %d", p.what, len(a.Final), len(b.Final), e)
		}
	}
	if least, e := regauto.Meet(a, a); e != api.OK || len(least.Final) > 300 || !regauto.Same(least, a) {
		t.Errorf("Meet of %d states with themselves: %d states, %d", len(a.Final), len(least.Final), e)
	}
}
