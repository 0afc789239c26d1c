package regex_test

import (
	"maps"
	"slices"
	"strings"
	"unicode/utf8"

	"gabarit/api"
)

// flaw is a number, a range or a set that is not as it must be: the byte that is wrong, and where what shows it ends.
type flaw struct{ at, end int }

// reading is one of the ways in which the grammar reads a text from a place on: where it ends, what it reads, and its flaws.
type reading struct {
	end     int
	x       api.Regex
	c       int32 // of a single, and a number
	changes []int32
	has     func(c int32) bool // of a set, and an item: its characters, which change at changes alone
	bad     []flaw
}

// rule reads s from a place on, in all ways.
type rule func(s string, from int) []reading

// behind reads s in all ways from the end of one on, and puts both together.
func behind(s string, first []reading, then rule, both func(a, b reading) reading) []reading {
	var l []reading
	for _, a := range first {
		for _, b := range then(s, a.end) {
			c := both(a, b)
			c.end = b.end
			c.bad = slices.Concat(a.bad, b.bad, c.bad)
			l = append(l, c)
		}
	}
	return l
}

// former and latter are what is read by the first, and by the second of two.
func former(a, _ reading) reading { return reading{x: a.x, c: a.c, changes: a.changes, has: a.has} }

func latter(_, b reading) reading { return reading{x: b.x, c: b.c, changes: b.changes, has: b.has} }

// sign reads this sign.
func sign(is string) rule {
	return func(s string, from int) []reading {
		if !strings.HasPrefix(s[from:], is) {
			return nil
		}
		return []reading{{end: from + len(is)}}
	}
}

// but reads a character that is none of these.
func but(signs string) rule {
	return func(s string, from int) []reading {
		c, size := utf8.DecodeRuneInString(s[from:])
		if c == utf8.RuneError && size <= 1 || !isCharacter(c) || strings.ContainsRune(signs, c) {
			return nil
		}
		return []reading{{end: from + size, c: c}}
	}
}

// withArg puts what is read by the second of two to the Args of what is read by the first.
func withArg(a, b reading) reading {
	return reading{x: seq(append(slices.Clone(a.x.Args), b.x)...)}
}

// whole is what is put together, by how many there are.
func whole(l []reading, none api.Regex, several int) []reading {
	for i := range l {
		switch args := l[i].x.Args; len(args) {
		case 0:
			l[i].x = none
		case 1:
			l[i].x = args[0]
		default:
			l[i].x.Kind = several
		}
	}
	return l
}

// more reads on as often as it goes, and returns what was read on the way too.
func more(s string, first []reading, then rule, both func(a, b reading) reading) []reading {
	all := first
	for len(first) > 0 {
		first = behind(s, first, then, both)
		all = append(all, first...)
	}
	return all
}

func readAlt(s string, from int) []reading {
	first := behind(s, []reading{{end: from}}, readSeq, withArg)
	then := func(s string, from int) []reading { return behind(s, sign("|")(s, from), readSeq, latter) }
	return whole(more(s, first, then, withArg), api.Regex{}, api.RxAlt)
}

func readSeq(s string, from int) []reading {
	return whole(more(s, []reading{{end: from}}, readTimes, withArg), empty(), api.RxSeq)
}

func readTimes(s string, from int) []reading {
	units := readUnit(s, from)
	l := slices.Clone(units)
	for is, bounds := range map[string][2]int{"?": {0, 1}, "*": {0, -1}, "+": {1, -1}} {
		l = append(l, behind(s, units, sign(is), func(a, _ reading) reading {
			return reading{x: times(bounds[0], bounds[1], a.x)}
		})...)
	}
	return append(l, behind(s, units, readBounds, func(a, b reading) reading {
		return reading{x: times(b.x.Low, b.x.High, a.x)}
	})...)
}

func readBounds(s string, from int) []reading {
	low := behind(s, sign("{")(s, from), readNumber, func(_, b reading) reading {
		return reading{x: api.Regex{Low: int(b.c), High: int(b.c)}}
	})
	open := behind(s, low, sign(","), func(a, _ reading) reading {
		return reading{x: api.Regex{Low: a.x.Low, High: -1}}
	})
	closed := behind(s, open, readNumber, func(a, b reading) reading {
		return reading{x: api.Regex{Low: a.x.Low, High: int(b.c)}}
	})
	return behind(s, slices.Concat(low, open, closed), sign("}"), func(a, b reading) reading {
		c := former(a, b)
		if !isValid(times(c.x.Low, c.x.High, empty())) {
			c.bad = []flaw{{b.end - 1, b.end}}
		}
		return c
	})
}

func readNumber(s string, from int) []reading {
	var l []reading
	for n := range 100 {
		digits := string(rune('0' + n%10))
		if n >= 10 {
			digits = string(rune('0'+n/10)) + digits
		}
		for _, r := range sign(digits)(s, from) {
			r.c = int32(n)
			l = append(l, r)
		}
	}
	return l
}

func readUnit(s string, from int) []reading {
	l := behind(s, sign("(")(s, from), readAlt, latter)
	l = behind(s, l, sign(")"), former)
	single := func(r reading) reading {
		r.x = char(r.c)
		return r
	}
	set := func(r reading) reading {
		r.x = api.Regex{Kind: api.RxSet, Set: setWith(slices.Clone(r.changes), r.has)}
		return r
	}
	for _, r := range slices.Concat(but(`.\?*+{}()[]|`)(s, from), readEscape(s, from)) {
		l = append(l, single(r))
	}
	for _, r := range slices.Concat(readClass(s, from), readSet(s, from)) {
		l = append(l, set(r))
	}
	for _, r := range sign(".")(s, from) {
		r.changes = []int32{10, 11, 13, 14}
		r.has = func(c int32) bool { return c != 10 && c != 13 }
		l = append(l, set(r))
	}
	return l
}

func readEscape(s string, from int) []reading {
	escapes := map[string]int32{"n": 10, "r": 13, "t": 9}
	for _, c := range `.\?*+{}()[]|-^` {
		escapes[string(c)] = c
	}
	var l []reading
	for letter, c := range escapes {
		l = append(l, behind(s, sign(`\`)(s, from), sign(letter), func(_, _ reading) reading { return reading{c: c} })...)
	}
	return l
}

func readClass(s string, from int) []reading {
	classes := map[string]func(c int32) bool{
		"d": func(c int32) bool { return c >= '0' && c <= '9' },
		"s": func(c int32) bool { return c == 9 || c == 10 || c == 13 || c == 32 },
		"w": func(c int32) bool {
			return c >= '0' && c <= '9' || c >= 'A' && c <= 'Z' || c >= 'a' && c <= 'z' || c == '_'
		},
	}
	var changes []int32
	for c := range int32(128) {
		changes = append(changes, c)
	}
	changes = append(changes, 128)
	var l []reading
	for letter, has := range maps.All(classes) {
		not := func(c int32) bool { return !has(c) }
		l = append(l, behind(s, sign(`\`)(s, from), sign(letter), func(_, _ reading) reading { return reading{changes: changes, has: has} })...)
		l = append(l, behind(s, sign(`\`)(s, from), sign(strings.ToUpper(letter)), func(_, _ reading) reading { return reading{changes: changes, has: not} })...)
	}
	return l
}

func readSet(s string, from int) []reading {
	plain := sign("[")(s, from)
	for i := range plain {
		plain[i].has = func(int32) bool { return false }
	}
	negated := behind(s, plain, sign("^"), former)
	either := func(a, b reading) reading {
		return reading{changes: slices.Concat(a.changes, b.changes), has: func(c int32) bool { return a.has(c) || b.has(c) }}
	}
	items := func(first []reading) []reading { return more(s, behind(s, first, readItem, either), readItem, either) }
	l := items(plain)
	for _, r := range items(negated) {
		has := r.has
		r.has = func(c int32) bool { return !has(c) }
		l = append(l, r)
	}
	away := func(s string, from int) []reading { return behind(s, sign("-")(s, from), readSet, latter) }
	l = append(l, behind(s, l, away, func(a, b reading) reading {
		return reading{changes: slices.Concat(a.changes, b.changes), has: func(c int32) bool { return a.has(c) && !b.has(c) }}
	})...)
	return behind(s, l, sign("]"), func(a, b reading) reading {
		c := former(a, b)
		if len(setWith(slices.Clone(c.changes), c.has)) == 0 {
			c.bad = []flaw{{b.end - 1, b.end}}
		}
		return c
	})
}

func readItem(s string, from int) []reading {
	single := func(s string, from int) []reading {
		return slices.Concat(but(`[]\-^`)(s, from), readEscape(s, from))
	}
	low := single(s, from)
	end := func(s string, from int) []reading {
		var l []reading
		for _, dash := range sign("-")(s, from) {
			for _, r := range single(s, dash.end) {
				r.bad = []flaw{{dash.end, r.end}}
				l = append(l, r)
			}
		}
		return l
	}
	l := readClass(s, from)
	for _, r := range low {
		r.changes, r.has = []int32{r.c, r.c + 1}, func(c int32) bool { return c == r.c }
		l = append(l, r)
	}
	for _, a := range low {
		for _, b := range end(s, a.end) {
			if a.c <= b.c {
				b.bad = nil
			}
			b.changes, b.has = []int32{a.c, b.c + 1}, func(c int32) bool { return a.c <= c && c <= b.c }
			l = append(l, b)
		}
	}
	return l
}

// wholly returns the one way in which the grammar reads all of s, if there is one.
func wholly(s string) (reading, bool) {
	var l []reading
	for _, r := range readAlt(s, 0) {
		if r.end == len(s) {
			l = append(l, r)
		}
	}
	if len(l) > 1 {
		panic("two ways to read " + s)
	}
	return append(l, reading{})[0], len(l) == 1
}

// goesOn returns a text that begins with s, if there is one.
func goesOn(s string) (string, bool) {
	for _, next := range []string{"", "n", "1}", "}", "a", "[a]"} {
		for sets := range strings.Count(s, "[") + 1 {
			for groups := range strings.Count(s, "(") + 1 {
				text := s + next + strings.Repeat("]", sets) + strings.Repeat(")", groups)
				if _, ok := wholly(text); ok {
					return text, true
				}
			}
		}
	}
	return "", false
}

// reference tells straight from the grammar what Parse returns for a short text.
func reference(s string) (api.Regex, int, api.Errno) {
	ends := []int{0}
	for at := 0; at < len(s); {
		c, size := utf8.DecodeRuneInString(s[at:])
		if c == utf8.RuneError && size == 1 || !isCharacter(c) {
			break
		}
		at += size
		ends = append(ends, at)
	}
	r, ok := wholly(s)
	good := len(s)
	if !ok {
		// What goes on is what begins something that goes on: so the first end at which it does not can be searched for by halves.
		n, _ := slices.BinarySearchFunc(ends, true, func(end int, _ bool) int {
			if _, ok := goesOn(s[:end]); ok {
				return -1
			}
			return 1
		})
		good = ends[n-1]
		text, _ := goesOn(s[:good])
		r, _ = wholly(text)
	}
	at := good
	for _, bad := range r.bad {
		if bad.end <= good {
			at = min(at, bad.at)
		}
	}
	if ok && at == len(s) {
		return r.x, 0, api.OK
	}
	return api.Regex{}, at, api.ErrForm
}
