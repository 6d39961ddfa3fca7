package cake_test

import (
	"fmt"
	"math"
	"slices"
	"testing"

	"anil/api"
	"anil/cake"
)

// The rules R1 to R11, and the promises P1 to P7, as far as they are about package cake. R5, R6, R8 and P2 to P6 are tested where the numbers are: R5 and R8 in TestCheckNumbers and TestCheckRanges, R6 in cake_test.go, P2 to P6 in properties_test.go. (R10 is about strings, and P8 about lines and files: cake has none.)

// args are the arguments of all calls beside the cut.
type args struct {
	lot                cake.Lot
	one, other, grower int
}

// plain are arguments that are valid for the cut of the examples.
func plain() args {
	return args{lot: lot(list(4, 6, 5), list(0, 0, 2, 1)), one: 1, other: 2, grower: 2}
}

// answer is what a call returns.
type answer struct {
	call string
	e    api.Errno
	text string // the results without the error
	zero bool   // whether all of them are zero values
}

func ask(c cake.Cut, a args) (out []answer) {
	add := func(call string, e api.Errno, zero bool, results ...any) {
		out = append(out, answer{call, e, fmt.Sprint(results...), zero})
	}
	add("CheckCut", cake.CheckCut(c), true)
	l, m, e := cake.Play(c, a.lot)
	add("Play", e, len(l) == 0 && len(m) == 0, l, m)
	w, e := cake.Whose(c)
	add("Whose", e, len(w) == 0, w)
	r, e := cake.Tones(c)
	add("Tones", e, len(r) == 0, r)
	x, e := cake.Apart(c, a.one, a.other)
	add("Apart", e, x == to(0, 0), x)
	n, e := cake.In(c, a.one, a.grower)
	add("In", e, n == 0, n)
	n, e = cake.Same(c, a.one, a.other)
	add("Same", e, n == 0, n)
	i, n, e := cake.Try(c)
	add("Try", e, i == 0 && n == 0, i, n)
	n, e = cake.First(c)
	add("First", e, n == 0, n)
	l, e = cake.Leave(c)
	add("Leave", e, len(l) == 0, l)
	add("ProveTruth", api.OK, false, cake.ProveTruth(c, a.lot))
	return out
}

// errors says for some calls which error they return.
type errors map[string]api.Errno

// TestErrorsInOrder: with several errors the first one of R1 counts, and no other result comes with it (R1, R2).
func TestErrorsInOrder(t *testing.T) {
	const limit, arg, rng, twice, none, fail, wrong = api.ErrLimit, api.ErrArg, api.ErrRange, api.ErrTwice, api.ErrNone, api.ErrFail, api.ErrFalse
	bad := args{lot: lot(list(9, 9, 9), list(9)), one: 9, other: 9, grower: 99}
	eye := func(c *cake.Cut) { c.Eye = 4 }
	wide := func(c *cake.Cut) {
		c.Boilings[0].Shade, c.Boilings[1].Shade, c.Boilings[2].Shade = to(0, 4), to(3, 7), to(5, 7)
	}
	noLot, noCake, noOther, noGrower, equals := plain(), plain(), plain(), plain(), plain()
	noLot.lot, noCake.one, noOther.other, noGrower.grower, equals.other = lot(list(4, 6, 5), list(0, 0, 2, 3)), -1, 4, 10, 1
	if n := len(allLots(changed(three(), wide))); n != 6075 {
		t.Fatalf("the cut has %d lots", n)
	}
	for _, x := range []struct {
		name string
		c    cake.Cut
		a    args
		all  api.Errno // the error of each call, if it is not OK
		want errors
		is   bool // whether ProveTruth says yes
	}{
		{"too many cakes, and not valid", changed(three(), func(c *cake.Cut) { c.Eye, c.Cakes = 4, make([]cake.Cake, 7) }), bad, limit, nil, false},
		{"too many boilings, and not valid", changed(three(), func(c *cake.Cut) { c.Eye, c.Boilings = 4, make([]cake.Boiling, 4) }), bad, limit, nil, false},
		{"not valid", changed(three(), eye), bad, arg, nil, false},
		{"not valid, and no cakes", cake.Cut{Eye: -1}, bad, arg, nil, false},
		{"too wide, and not valid", changed(changed(three(), wide), eye), bad, arg, nil, false},
		{"too wide", changed(three(), wide), bad, limit, nil, false},
		{"too wide, with arguments that are valid", changed(three(), wide), plain(), limit, nil, false},
		{"bad arguments, without a truth", untrue(), bad, 0, errors{"Play": rng, "Whose": wrong, "Tones": wrong, "Apart": rng, "In": rng, "Same": rng, "Try": wrong}, false},
		{"the same cake, without a truth", untrue(), equals, 0, errors{"Whose": wrong, "Tones": wrong, "Apart": twice, "In": wrong, "Same": twice, "Try": wrong}, false},
		{"without a truth", untrue(), plain(), 0, errors{"Whose": wrong, "Tones": wrong, "Apart": wrong, "In": wrong, "Same": wrong, "Try": wrong}, false},
		{"bad arguments, and not counted", uncounted(), bad, 0, errors{"Play": rng, "Whose": wrong, "Tones": wrong, "Apart": rng, "In": rng, "Same": rng, "Try": wrong, "First": fail, "Leave": fail}, false},
		{"not counted", uncounted(), plain(), 0, errors{"Whose": wrong, "Tones": wrong, "Apart": wrong, "In": wrong, "Same": wrong, "Try": wrong, "First": fail, "Leave": fail}, false},
		{"no boilings", unboiled(), args{other: 1}, 0, errors{"Play": rng, "Whose": wrong, "Tones": wrong, "Apart": wrong, "In": wrong, "Same": wrong, "Try": wrong, "First": fail, "Leave": fail}, false},
		{"no cakes, and not counted", changed(sized(0, 3), func(c *cake.Cut) { c.Boilings[0].Cut.Lo = 6 }), bad, 0, errors{"Play": rng, "Whose": wrong, "Tones": wrong, "Apart": rng, "In": rng, "Same": rng, "Try": wrong, "First": fail, "Leave": fail}, false},
		{"no cakes", sized(0, 3), bad, 0, errors{"Play": rng, "Apart": rng, "In": rng, "Same": rng, "Try": none, "First": none}, false},
		{"bad arguments", three(), bad, 0, errors{"Play": rng, "Apart": rng, "In": rng, "Same": rng, "First": none}, false},
		{"a bad lot", three(), noLot, 0, errors{"Play": rng, "First": none}, false},
		{"a bad cake", three(), noCake, 0, errors{"Apart": rng, "In": rng, "Same": rng, "First": none}, true},
		{"a bad cake that is the other one", three(), noOther, 0, errors{"Apart": rng, "Same": rng, "First": none}, true},
		{"a bad grower", three(), noGrower, 0, errors{"In": rng, "First": none}, true},
		{"the same cake", three(), equals, 0, errors{"Apart": twice, "Same": twice, "First": none}, true},
		{"all is well", three(), plain(), 0, errors{"First": none}, true},
	} {
		for _, got := range ask(x.c, x.a) {
			want := x.want[got.call]
			if x.all != api.OK {
				want = x.all
			}
			if got.call == "ProveTruth" {
				if (got.text == "true") != x.is {
					t.Errorf("%s: %s is %s", x.name, got.call, got.text)
				}
				continue
			}
			if got.e != want {
				t.Errorf("%s: %s: %v, not %v", x.name, got.call, got.e, want)
			}
			if got.e != api.OK && !got.zero {
				t.Errorf("%s: %s: %s comes with an error", x.name, got.call, got.text)
			}
		}
	}
}

// TestOneBadArgument makes one argument wrong at a time, just beyond its limit and far beyond; at the limit it is right.
func TestOneBadArgument(t *testing.T) {
	for _, c := range []cake.Cut{three(), untrue()} {
		for _, n := range list(-1, 4, math.MinInt, math.MaxInt, 0, 3) {
			isCake := n == 0 || n == 3
			_, d := cake.Apart(c, n, 1)
			_, e := cake.Apart(c, 1, n)
			_, f := cake.Same(c, n, 1)
			_, g := cake.Same(c, 1, n)
			_, h := cake.In(c, n, 9)
			for _, got := range []api.Errno{d, e, f, g, h} {
				if (got != api.ErrRange) != isCake {
					t.Errorf("the cake %d of %v: %v", n, c, got)
				}
			}
		}
		for _, n := range list(-1, 10, math.MinInt, math.MaxInt, 0, 9) {
			if _, e := cake.In(c, 3, n); (e != api.ErrRange) != (n == 0 || n == 9) {
				t.Errorf("the grower %d of %v: %v", n, c, e)
			}
		}
	}
}

// TestEmpty: nil is the same as a list without elements (R3).
func TestEmpty(t *testing.T) {
	full := cake.Cut{Boilings: []cake.Boiling{}, Cakes: []cake.Cake{}}
	for i, got := range ask(full, args{lot: lot(list(), list())}) {
		if want := ask(cake.Cut{}, args{})[i]; got != want {
			t.Errorf("%v, but with nil %v", got, want)
		}
	}
	inner := changed(three(), func(c *cake.Cut) { c.Boilings[0].Plants, c.Cakes[0].Grains = list(), list() })
	without := changed(three(), func(c *cake.Cut) { c.Boilings[0].Plants, c.Cakes[0].Grains = nil, nil })
	for i, got := range ask(inner, args{lot: lot(list(), list())}) {
		if want := ask(without, args{})[i]; got != want {
			t.Errorf("%v, but with nil %v", got, want)
		}
	}
	if !cake.ProveTruth(cake.Cut{}, cake.Lot{}) {
		t.Error("without boilings and cakes nothing is false")
	}
}

// TestMemory: arguments stay as they are, and results are in memory of their own (R4).
func TestMemory(t *testing.T) {
	for _, c := range append(cuts(), three(), untrue(), largest()) {
		a := args{one: len(c.Cakes) - 1}
		if all := allLots(c); len(all) > 0 {
			a.lot = all[len(all)/2]
		}
		a.lot = lot(roomy(a.lot.Shades, -3), roomy(a.lot.Of, -3))
		c = clone(c)
		for i := range c.Boilings {
			c.Boilings[i].Plants = roomy(c.Boilings[i].Plants, -3)
		}
		for i := range c.Cakes {
			c.Cakes[i].Grains = roomy(c.Cakes[i].Grains, -3)
		}
		c.Boilings, c.Cakes = roomy(c.Boilings, boiling(to(-3, -3), -3, to(-3, -3))), roomy(c.Cakes, look(-3))
		was := fmt.Sprint(toEnds(c, a))
		first := ask(c, a)
		scribble(c, a)
		if now := fmt.Sprint(toEnds(c, a)); now != was {
			t.Fatalf("arguments changed: %v, %v", was, now)
		}
		for i, again := range ask(c, a) { // the same call returns the same, whatever was done to the results
			if again != first[i] {
				t.Errorf("%v, and again %v", first[i], again)
			}
		}
	}
}

// roomy returns a copy of the list with room behind it, where marks show whether it is written to.
func roomy[T any](l []T, mark T) []T {
	out := append(make([]T, 0, len(l)+3), l...)
	rest := out[len(l):cap(out)]
	for i := range rest {
		rest[i] = mark
	}
	return out
}

// toEnds returns the arguments with their lists up to the ends of their memory.
func toEnds(c cake.Cut, a args) (cake.Cut, args) {
	c = cake.Cut{Eye: c.Eye, Boilings: slices.Clone(c.Boilings[:cap(c.Boilings)]), Cakes: slices.Clone(c.Cakes[:cap(c.Cakes)])}
	for i, b := range c.Boilings {
		c.Boilings[i].Plants = b.Plants[:cap(b.Plants)]
	}
	for i, x := range c.Cakes {
		c.Cakes[i].Grains = x.Grains[:cap(x.Grains)]
	}
	a.lot = lot(a.lot.Shades[:cap(a.lot.Shades)], a.lot.Of[:cap(a.lot.Of)])
	return c, a
}

// scribble writes over all results.
func scribble(c cake.Cut, a args) {
	for range 2 {
		counts, wrong, _ := cake.Play(c, a.lot)
		left, _ := cake.Leave(c)
		whose, _ := cake.Whose(c)
		for _, l := range append([][]int{counts, wrong, left}, whose...) {
			for i := range l[:cap(l)] {
				l[:cap(l)][i] = -7
			}
		}
		r, _ := cake.Tones(c)
		for i := range r[:cap(r)] {
			r[:cap(r)][i] = to(-7, -7)
		}
	}
}

// TestResultsApart: results share no memory with those of an equal call, nor with each other (R4).
func TestResultsApart(t *testing.T) {
	want := [][]int{{0}, {0, 1, 2}, {0, 2}, {1}}
	for range 2 {
		counts, wrong, _ := cake.Play(three(), lot(list(3, 5, 5), list(0, 1, 2, 2)))
		left, _ := cake.Leave(untrue())
		tones, _ := cake.Tones(three())
		if !slices.Equal(counts, list(1, 1, 2)) || !slices.Equal(wrong, list(3)) || !slices.Equal(left, list(0)) || !slices.Equal(tones, ranges(3, 4, 4, 6, 3, 5, 5, 6)) {
			t.Errorf("Play, Leave, Tones: %v, %v; %v; %v", counts, wrong, left, tones)
		}
		counts[0], wrong[0], left[0], tones[0] = -7, -7, -7, to(-7, -7)
	}
	for i := range want {
		whose, _ := cake.Whose(three())
		l := whose[i][:cap(whose[i])]
		for k := range l {
			l[k] = -7
		}
		for k := range want {
			if k != i && !slices.Equal(whose[k], want[k]) {
				t.Errorf("Whose: %v, but %v is written to", whose, i)
			}
		}
	}
}

// TestAnyArguments: each call returns, whatever its arguments are (P1), and the call that proves says no (R11).
func TestAnyArguments(t *testing.T) {
	odd := list(0, -1, 1, 2, 3, 4, 5, 6, 7, 9, 10, 100, math.MaxInt, math.MinInt, math.MaxInt-1)
	lists := [][]int{nil, {}, {0}, {-1, math.MaxInt}, {0, 1}, {4, 6, 5}, {0, 0, 2, 1}, {math.MinInt, math.MinInt, 0}, make([]int, 4), make([]int, 1000)}
	d := &dice{state: 9}
	pick := func() int { return odd[d.roll(0, len(odd)-1)] }
	some := func() []int { return lists[d.roll(0, len(lists)-1)] }
	for i := range 4000 {
		c := three()
		if i%4 > 0 {
			c.Eye = pick()
		}
		if i%4 > 1 {
			c.Boilings = nil
			for range d.roll(0, 4) {
				c.Boilings = append(c.Boilings, boiling(to(pick(), pick()), pick(), to(pick(), pick()), some()...))
			}
		}
		if i%2 == 0 {
			c.Cakes = nil
			for range d.roll(0, 7) {
				c.Cakes = append(c.Cakes, look(pick(), some()...))
			}
		}
		a := args{lot: lot(some(), some()), one: pick(), other: pick(), grower: pick()}
		e := cake.CheckCut(c)
		for _, got := range ask(c, a) {
			proves := got.call == "ProveTruth"
			if e != api.OK && (proves && got.text == "true" || !proves && (got.e != e || !got.zero)) {
				t.Errorf("%s of %v: %v, %v", got.call, c, got.text, got.e)
			}
		}
	}
}

// TestAnyOrder: looks lead to the same ranges, and to sets of the same size, in any order, except for their indexes (P7).
func TestAnyOrder(t *testing.T) {
	d := &dice{state: 3}
	for _, c := range append(cuts(), three(), untrue()) {
		z := clone(c)
		number := numbers(len(c.Cakes)) // those in z of the cakes of c
		for i := range number {
			j := d.roll(0, i)
			number[i], number[j] = number[j], number[i]
		}
		for i, n := range number {
			z.Cakes[n] = c.Cakes[i]
		}
		bothSay(t, c, z, number, numbers(len(c.Boilings)))
		if e, f := cake.CheckCut(c), cake.CheckCut(z); e != f {
			t.Errorf("CheckCut of %v: %v, but of %v: %v", c, e, z, f)
		}
	}
}
