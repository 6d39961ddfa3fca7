package steep_test

import (
	"fmt"
	"math"
	"slices"
	"testing"

	"anil/api"
	"anil/steep"
)

// The rules R1 to R11, and the promises P1 to P7, as far as they are about package steep. R5, R6, R8 and P2 to P6 are tested where the numbers are: R5 and R8 in TestCheckNumbers and TestCheckRanges, R6 and P4 in steep_test.go, P2, P3, P5 and P6 in properties_test.go. (R10 is about strings, and P8 about lines and files: steep has none.)

// args are the arguments of all calls beside the steep.
type args struct {
	truth    steep.Truth
	in, hour int
}

// plain are arguments that are valid for the steep of the examples.
func plain() args {
	return args{truth: truthOf(7, list(2, 2, 2, 3), list(21, 9)), in: 1, hour: 2}
}

// answer is what a call returns.
type answer struct {
	call string
	e    api.Errno
	text string // the results without the error
	zero bool   // whether all of them are zero values
}

func ask(s steep.Steep, a args) (out []answer) {
	add := func(call string, e api.Errno, zero bool, results ...any) {
		out = append(out, answer{call, e, fmt.Sprint(results...), zero})
	}
	add("CheckSteep", steep.CheckSteep(s), true)
	o, k, e := steep.Play(s, a.truth)
	add("Play", e, len(o) == 0 && len(k) == 0, o, k)
	l, e := steep.Out(s, a.in)
	add("Out", e, len(l) == 0, l)
	n, e := steep.Right(s, a.in, a.hour)
	add("Right", e, n == 0, n)
	g, e := steep.Good(s, a.in)
	add("Good", e, g == to(0, 0), g)
	n, e = steep.Stuck(s)
	add("Stuck", e, n == 0, n)
	v, h, n, e := steep.Ask(s)
	add("Ask", e, v == 0 && h == 0 && n == 0, v, h, n)
	n, e = steep.First(s)
	add("First", e, n == 0, n)
	p, e := steep.Leave(s)
	add("Leave", e, len(p) == 0, p)
	add("ProveTruth", api.OK, false, steep.ProveTruth(s, a.truth))
	add("ProveGood", api.OK, false, steep.ProveGood(s, a.in, a.hour))
	return out
}

// TestErrorsInOrder: with several errors the first one of R1 counts, and no other result comes with it (R1, R2).
func TestErrorsInOrder(t *testing.T) {
	const limit, arg, rng, none, short, wrong = api.ErrLimit, api.ErrArg, api.ErrRange, api.ErrNone, api.ErrShort, api.ErrFalse
	bad := args{truth: truthOf(9, list(9), nil), in: 2, hour: 9}
	many := untrue()
	many.Smells = append(many.Smells, make([]steep.Smell, 4)...)
	late := untrue()
	late.Last, late.Per = 6, 0
	bent := untrue()
	bent.Per = 10
	wide := untrue()
	wide.Warm = ranges(0, 9, 0, 9, 0, 9, 0, 9)
	both := wide
	both.Per = 0
	needy := two()
	needy.Vats[1].Need = 10
	early := plain()
	early.hour = 0
	for _, x := range []struct {
		name string
		s    steep.Steep
		a    args
		all  api.Errno // the error of each call, if it is not OK
		want map[string]api.Errno
	}{
		{"too many smells", many, bad, limit, nil},
		{"too late, and not valid", late, bad, limit, nil},
		{"too many vats, and not valid", steep.Steep{Last: -1, Vats: make([]steep.Vat, 5)}, bad, limit, nil},
		{"not valid", bent, bad, arg, nil},
		{"too wide, and not valid", both, bad, arg, nil},
		{"too wide", wide, bad, limit, nil},
		{"too wide, with arguments that are valid", wide, plain(), limit, nil},
		{"bad arguments, without a truth", untrue(), bad, 0, map[string]api.Errno{"Play": rng, "Out": rng, "Right": rng, "Good": rng, "Stuck": wrong, "Ask": wrong}},
		{"a bad hour, without a truth", untrue(), early, 0, map[string]api.Errno{"Out": wrong, "Right": rng, "Good": wrong, "Stuck": wrong, "Ask": wrong}},
		{"bad arguments", two(), bad, 0, map[string]api.Errno{"Play": rng, "Out": rng, "Right": rng, "Good": rng, "Stuck": none, "Ask": 0, "First": none}},
		{"bad arguments, and no good hour", needy, bad, 0, map[string]api.Errno{"Play": rng, "Out": rng, "Right": rng, "Good": rng, "First": none}},
		{"a bad hour", two(), early, 0, map[string]api.Errno{"Right": rng, "Stuck": none, "First": none}},
		{"without a truth", untrue(), plain(), 0, map[string]api.Errno{"Out": wrong, "Right": wrong, "Good": wrong, "Stuck": wrong, "Ask": wrong}},
		{"no good hour, without a truth", with(needy, smell(0, 0, ripe)), plain(), 0, map[string]api.Errno{"Out": wrong, "Right": wrong, "Good": wrong, "Stuck": wrong, "Ask": wrong}},
		{"no good hour", needy, plain(), 0, map[string]api.Errno{"Good": short, "First": none}},
		{"without vats", empty(), bad, 0, map[string]api.Errno{"Play": rng, "Out": rng, "Right": rng, "Good": rng, "Stuck": none, "Ask": none, "First": none}},
		{"all is well", two(), plain(), 0, map[string]api.Errno{"Stuck": none, "First": none}},
	} {
		for _, got := range ask(x.s, x.a) {
			want := x.want[got.call]
			if x.all != api.OK {
				want = x.all
			}
			if asked := map[string]string{"ProveTruth": "Play", "ProveGood": "Right"}[got.call]; asked != "" {
				if got.text == "true" && (x.all != api.OK || x.want[asked] != api.OK) {
					t.Errorf("%s: %s", x.name, got.call)
				}
				continue
			}
			if got.e != want {
				t.Errorf("%s: %s: %v, not %v", x.name, got.call, got.e, want)
			}
			if got.e != api.OK && !got.zero {
				t.Errorf("%s: %s: %s comes with an error", x.name, got.call, got.text)
			}
		}
	}
}

// TestOneBadArgument makes one argument wrong at a time, just beyond its limit and far beyond; at the limit it is right.
func TestOneBadArgument(t *testing.T) {
	for _, s := range []steep.Steep{two(), untrue()} {
		for _, n := range list(-1, 2, math.MinInt, math.MaxInt) {
			_, e := steep.Out(s, n)
			_, f := steep.Right(s, n, 2)
			_, g := steep.Good(s, n)
			if e != api.ErrRange || f != api.ErrRange || g != api.ErrRange || steep.ProveGood(s, n, 2) {
				t.Errorf("with the vat %d of %v: %v, %v, %v", n, s, e, f, g)
			}
		}
		for v := range 2 {
			for _, n := range list(v-1, 4, math.MinInt, math.MaxInt) {
				if _, e := steep.Right(s, v, n); e != api.ErrRange || steep.ProveGood(s, v, n) {
					t.Errorf("Right of the vat %d of %v after the hour %d: %v", v, s, n, e)
				}
			}
			for _, n := range list(v, 3) {
				if _, e := steep.Right(s, v, n); e == api.ErrRange {
					t.Errorf("Right of the vat %d of %v after the hour %d: %v", v, s, n, e)
				}
			}
		}
	}
}

// TestEmpty: nil is the same as a list without elements (R3), and sums of nothing are 0 (R9).
func TestEmpty(t *testing.T) {
	full := empty()
	full.Vats, full.Smells = []steep.Vat{}, []steep.Smell{}
	for i, got := range ask(full, args{truth: truthOf(0, list(1), list())}) {
		if want := ask(empty(), args{truth: truthOf(0, list(1), nil)})[i]; got != want {
			t.Errorf("%v, but with nil %v", got, want)
		}
	}
	for i, got := range ask(steep.Steep{Warm: []steep.Range{}}, args{truth: truthOf(0, list(), list())}) {
		if want := ask(steep.Steep{}, args{})[i]; got != want || got.call != "ProveTruth" && got.call != "ProveGood" && got.e != api.ErrArg {
			t.Errorf("%v, but with nil %v", got, want)
		}
	}
}

// TestMemory: arguments stay as they are, and results are in memory of their own (R4).
func TestMemory(t *testing.T) {
	for _, s := range append(steeps(), two(), untrue(), largest(smell(0, 1, ripe))) {
		a := args{in: len(s.Vats) - 1, hour: s.Last}
		a.truth = allTruths(s)[0]
		s = roomySteep(s)
		a.truth.Warm, a.truth.Full = roomy(a.truth.Warm, -3), roomy(a.truth.Full, -3)
		was := fmt.Sprint(toEnds(s, a.truth))
		first := ask(s, a)
		scribble(s, a)
		if now := fmt.Sprint(toEnds(s, a.truth)); now != was {
			t.Fatalf("arguments changed: %v, %v", was, now)
		}
		for i, again := range ask(s, a) { // the same call returns the same, whatever was done to the results
			if again != first[i] {
				t.Errorf("%v, and again %v", first[i], again)
			}
		}
	}
}

// roomy returns a copy of the list with room behind it, where marks show whether it is written to.
func roomy[T any](l []T, mark T) []T {
	out := append(make([]T, 0, len(l)+3), l...)
	rest := out[len(l):cap(out)]
	for i := range rest {
		rest[i] = mark
	}
	return out
}

func roomySteep(s steep.Steep) steep.Steep {
	s.Warm, s.Smells = roomy(s.Warm, to(-3, -3)), roomy(s.Smells, smell(-3, -3, -3))
	s.Vats = roomy(s.Vats, steep.Vat{Begin: -3, Full: to(-3, -3), Need: -3})
	return s
}

// toEnds returns the arguments with their lists up to the ends of their memory.
func toEnds(s steep.Steep, x steep.Truth) (steep.Steep, steep.Truth) {
	s.Warm, s.Vats, s.Smells = s.Warm[:cap(s.Warm)], s.Vats[:cap(s.Vats)], s.Smells[:cap(s.Smells)]
	x.Warm, x.Full = x.Warm[:cap(x.Warm)], x.Full[:cap(x.Full)]
	return s, x
}

// scribble writes over all results.
func scribble(s steep.Steep, a args) {
	for range 2 {
		out, kinds, _ := steep.Play(s, a.truth)
		l, _ := steep.Leave(s)
		for _, l := range append(append([][]int{l}, out[:cap(out)]...), kinds[:cap(kinds)]...) {
			for i := range l[:cap(l)] {
				l[:cap(l)][i] = -7
			}
		}
		r, _ := steep.Out(s, a.in)
		for i := range r[:cap(r)] {
			r[:cap(r)][i] = to(-7, -7)
		}
	}
}

// TestResultsApart: results share no memory, neither within a call nor with those of an equal one (R4).
func TestResultsApart(t *testing.T) {
	three := two()
	three.Vats = append(three.Vats, three.Vats[1])
	x := truthOf(7, list(2, 2, 2, 3), list(21, 9, 9))
	out, kinds, _ := steep.Play(three, x)
	lists := append(slices.Clone(out), kinds...)
	for i, l := range lists {
		for j := range l[:cap(l)] {
			l[:cap(l)][j] = 100 + i
		}
	}
	for i, l := range lists {
		for _, n := range l {
			if n != 100+i {
				t.Errorf("Play: the lists %d and %d share memory", i, n-100)
			}
		}
	}
	again, _, _ := steep.Play(three, x)
	if !equalLists(again, [][]int{{6, 12, 18, 21}, {6, 9, 9}, {6, 9, 9}}) {
		t.Errorf("Play: %v", again)
	}
	l, _ := steep.Leave(untrue())
	m, _ := steep.Leave(untrue())
	l[0] = 9
	r, _ := steep.Out(two(), 1)
	o, _ := steep.Out(two(), 1)
	r[0] = to(1, 1)
	if !slices.Equal(m, list(0)) || !slices.Equal(o, ranges(6, 6, 9, 9, 9, 9)) {
		t.Errorf("Leave, Out: %v, %v", m, o)
	}
}

// TestAnyArguments: each call returns, whatever its arguments are (P1), and the calls that prove say no (R11).
func TestAnyArguments(t *testing.T) {
	odd := list(0, -1, 1, 2, 3, 5, 6, 100, math.MaxInt, math.MinInt, math.MaxInt-1)
	lists := [][]int{nil, {}, {0}, {-1, math.MaxInt}, {2, 2, 2, 3}, {21, 9}, {math.MinInt, math.MinInt}, make([]int, 6), make([]int, 1000)}
	d := &dice{state: 9}
	pick := func() int { return odd[d.roll(0, len(odd)-1)] }
	for i := range 4000 {
		s := two()
		if i%4 > 0 {
			s.Last, s.Per, s.Spoil = pick(), pick(), to(pick(), pick())
		}
		if i%4 > 1 {
			s.Warm, s.Vats = nil, nil
			for range d.roll(0, 6) {
				s.Warm = append(s.Warm, to(pick(), pick()))
			}
			for range d.roll(0, 5) {
				s.Vats = append(s.Vats, steep.Vat{Begin: pick(), Full: to(pick(), pick()), Need: pick()})
			}
		}
		if i%2 == 0 {
			for range d.roll(0, 6) {
				s.Smells = append(s.Smells, smell(pick(), pick(), pick()))
			}
		}
		a := args{truth: truthOf(pick(), lists[d.roll(0, len(lists)-1)], lists[d.roll(0, len(lists)-1)]), in: pick(), hour: pick()}
		e := steep.CheckSteep(s)
		for _, got := range ask(s, a) {
			proves := got.call == "ProveTruth" || got.call == "ProveGood"
			if e != api.OK && (proves && got.text == "true" || !proves && (got.e != e || !got.zero)) {
				t.Errorf("%s of %v: %v, %v", got.call, s, got.text, got.e)
			}
		}
	}
}

// TestAnyOrder: smells lead to the same ranges, and to sets of the same size, in any order (P7).
func TestAnyOrder(t *testing.T) {
	d := &dice{state: 3}
	for _, s := range append(steeps(), untrue()) {
		z := clone(s)
		for i := range z.Smells {
			j := d.roll(0, i)
			z.Smells[i], z.Smells[j] = z.Smells[j], z.Smells[i]
		}
		x := args{truth: allTruths(s)[0]}
		for v := range max(1, len(s.Vats)) {
			x.in, x.hour = v, s.Last
			a, b := ask(s, x), ask(z, x)
			for i := range a {
				if a[i].call != "First" && a[i].call != "Leave" && a[i] != b[i] {
					t.Errorf("%v: %v, and with the smells in another order %v", s, a[i], b[i])
				}
			}
		}
		l, m := leaveOf(t, s), leaveOf(t, z)
		if len(l) != len(m) {
			t.Errorf("Leave of %v: %v, and of %v: %v", s.Smells, l, z.Smells, m)
		}
	}
}
