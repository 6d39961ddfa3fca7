package shelf_test

import (
	"fmt"
	"math"
	"slices"
	"testing"

	"anil/api"
	"anil/shelf"
)

// The rules R1 to R11, and the promises P1 to P7, as far as they are about package shelf. R5, R6, R8 and P2 to P6 are tested where the numbers are: R5 and R8 in TestCheckNumbers and TestCheckRanges, R6 and P4 in shelf_test.go, P2, P3, P5 and P6 in properties_test.go. (R10 is about strings, and P8 about lines and files: shelf has none.)

// args are the arguments of all calls beside the loft.
type args struct {
	place   []int
	truth   shelf.Truth
	of, day int
}

// plain are arguments that are valid for the loft of the examples.
func plain() args {
	return args{place: list(0, 1), truth: truthOf(list(2, 1, 3, 3), list(7, 5)), of: 1, day: 3}
}

// answer is what a call returns.
type answer struct {
	call string
	e    api.Errno
	text string // the results without the error
	zero bool   // whether all of them are zero values
}

func ask(l shelf.Loft, a args) (out []answer) {
	add := func(call string, e api.Errno, zero bool, results ...any) {
		out = append(out, answer{call, e, fmt.Sprint(results...), zero})
	}
	add("CheckLoft", shelf.CheckLoft(l), true)
	p, e := shelf.Play(l, a.place, a.truth)
	add("Play", e, len(p) == 0, p)
	r, e := shelf.Left(l, a.place, a.of)
	add("Left", e, len(r) == 0, r)
	n, e := shelf.Dry(l, a.place, a.of, a.day)
	add("Dry", e, n == 0, n)
	n, e = shelf.Day(l, a.place, a.of)
	add("Day", e, n == 0, n)
	n, e = shelf.Stuck(l, a.place)
	add("Stuck", e, n == 0, n)
	b, n, e := shelf.Best(l)
	add("Best", e, len(b) == 0 && n == 0, b, n)
	b, e = shelf.By(l, a.day)
	add("By", e, len(b) == 0, b)
	n, e = shelf.First(l)
	add("First", e, n == 0, n)
	b, e = shelf.Leave(l)
	add("Leave", e, len(b) == 0, b)
	add("ProveTruth", api.OK, false, shelf.ProveTruth(l, a.truth))
	add("ProvePlace", api.OK, false, shelf.ProvePlace(l, a.place, a.day))
	return out
}

// errors says for some calls which error they return.
type errors map[string]api.Errno

// TestErrorsInOrder: with several errors the first one of R1 counts, and no other result comes with it (R1, R2).
func TestErrorsInOrder(t *testing.T) {
	const limit, arg, rng, no, short, wrong = api.ErrLimit, api.ErrArg, api.ErrRange, api.ErrNone, api.ErrShort, api.ErrFalse
	bad := args{place: list(0, 0), truth: truthOf(list(9), nil), of: 2, day: 9}
	noPlace, noTruth, noCake, early, late, other := plain(), plain(), plain(), plain(), plain(), plain()
	noPlace.place, noTruth.truth, noCake.of, early.day, late.day, other.place = list(0, 0), shelf.Truth{}, -1, 0, 4, list(1, 0)
	draft := func(l *shelf.Loft) { l.Shelves[0].Draft = 5 }
	wide := func(l *shelf.Loft) { l.Cakes[0].Water, l.Cakes[1].Water = to(0, 19), to(0, 19) }
	wet := func(l *shelf.Loft) { l.Cakes[1].Water = to(40, 40) }
	if n := len(allTruths(changed(two(), wide))); n != 2400 {
		t.Fatalf("the loft has %d truths", n)
	}
	for _, x := range []struct {
		name       string
		l          shelf.Loft
		a          args
		all        api.Errno // the error of each call, if it is not OK
		want       errors
		tell, good bool // what ProveTruth and ProvePlace say
	}{
		{"too long, and not valid", changed(untrue(), func(l *shelf.Loft) { l.Last, l.Put = 6, nil }), bad, limit, nil, false, false},
		{"too many shelves, and not valid", changed(untrue(), func(l *shelf.Loft) { l.Last, l.Shelves = -1, make([]shelf.Board, 4) }), bad, limit, nil, false, false},
		{"too many cakes, and not valid", changed(untrue(), func(l *shelf.Loft) { l.Last, l.Cakes = -1, make([]shelf.Cake, 6) }), bad, limit, nil, false, false},
		{"too many weights, and not valid", changed(two(make([]shelf.Weight, 6)...), draft), bad, limit, nil, false, false},
		{"not valid", changed(untrue(), draft), bad, arg, nil, false, false},
		{"not valid, with arguments that are", changed(two(), draft), plain(), arg, nil, false, false},
		{"too wide, and not valid", changed(changed(two(), wide), draft), bad, arg, nil, false, false},
		{"too wide", changed(two(), wide), bad, limit, nil, false, false},
		{"too wide, with arguments that are valid", changed(two(), wide), plain(), limit, nil, false, false},
		{"bad arguments, without a truth", untrue(), bad, 0, errors{"Play": rng, "Left": rng, "Dry": rng, "Day": rng, "Stuck": rng, "Best": wrong, "By": rng}, false, false},
		{"a bad day, without a truth", untrue(), late, 0, errors{"Left": wrong, "Dry": rng, "Day": wrong, "Stuck": wrong, "Best": wrong, "By": rng}, false, false},
		{"a day before the cake comes, without a truth", untrue(), early, 0, errors{"Left": wrong, "Dry": rng, "Day": wrong, "Stuck": wrong, "Best": wrong, "By": wrong}, false, false},
		{"a bad cake, without a truth", untrue(), noCake, 0, errors{"Left": rng, "Dry": rng, "Day": rng, "Stuck": wrong, "Best": wrong, "By": wrong}, false, false},
		{"without a truth", untrue(), plain(), 0, errors{"Left": wrong, "Dry": wrong, "Day": wrong, "Stuck": wrong, "Best": wrong, "By": wrong}, false, false},
		{"without a truth, and wet", changed(untrue(), wet), plain(), 0, errors{"Play": rng, "Left": wrong, "Dry": wrong, "Day": wrong, "Stuck": wrong, "Best": wrong, "By": wrong}, false, false},
		{"bad arguments, and wet", changed(two(), wet), bad, 0, errors{"Play": rng, "Left": rng, "Dry": rng, "Day": rng, "Stuck": rng, "Best": short, "By": rng, "First": no}, false, false},
		{"wet", changed(two(), wet), plain(), 0, errors{"Play": rng, "Day": short, "Best": short, "By": short, "First": no}, false, false},
		{"bad arguments", two(), bad, 0, errors{"Play": rng, "Left": rng, "Dry": rng, "Day": rng, "Stuck": rng, "By": rng, "First": no}, false, false},
		{"no placement", two(), noPlace, 0, errors{"Play": rng, "Left": rng, "Dry": rng, "Day": rng, "Stuck": rng, "First": no}, true, false},
		{"no truth", two(), noTruth, 0, errors{"Play": rng, "Stuck": no, "First": no}, false, true},
		{"a bad cake", two(), noCake, 0, errors{"Left": rng, "Dry": rng, "Day": rng, "Stuck": no, "First": no}, true, true},
		{"a day before the cake comes", two(), early, 0, errors{"Dry": rng, "Stuck": no, "By": short, "First": no}, true, false},
		{"a bad day", two(), late, 0, errors{"Dry": rng, "Stuck": no, "By": rng, "First": no}, true, true},
		{"a placement that is not good", two(), other, 0, errors{"First": no}, true, false},
		{"no cakes", empty(), bad, 0, errors{"Play": rng, "Left": rng, "Dry": rng, "Day": rng, "Stuck": rng, "By": rng, "First": no}, false, false},
		{"all is well", two(), plain(), 0, errors{"Stuck": no, "First": no}, true, true},
	} {
		for _, got := range ask(x.l, x.a) {
			want := x.want[got.call]
			if x.all != api.OK {
				want = x.all
			}
			if proves, ok := map[string]bool{"ProveTruth": x.tell, "ProvePlace": x.good}[got.call]; ok {
				if (got.text == "true") != proves {
					t.Errorf("%s: %s is %s", x.name, got.call, got.text)
				}
				continue
			}
			if got.e != want {
				t.Errorf("%s: %s: %v, not %v", x.name, got.call, got.e, want)
			}
			if got.e != api.OK && !got.zero {
				t.Errorf("%s: %s: %s comes with an error", x.name, got.call, got.text)
			}
		}
	}
}

// TestOneBadArgument makes one argument wrong at a time, just beyond its limit and far beyond; at the limit it is right.
func TestOneBadArgument(t *testing.T) {
	for _, l := range []shelf.Loft{two(), untrue()} {
		for _, n := range list(-1, 2, math.MinInt, math.MaxInt, 0, 1) {
			isCake := n == 0 || n == 1
			_, e := shelf.Left(l, list(1, 1), n)
			_, f := shelf.Dry(l, list(1, 1), n, 2)
			_, g := shelf.Day(l, list(1, 1), n)
			for _, got := range []api.Errno{e, f, g} {
				if (got != api.ErrRange) != isCake {
					t.Errorf("the cake %d of %v: %v", n, l, got)
				}
			}
		}
		for i := range 2 {
			for _, n := range list(i-1, 4, math.MinInt, math.MaxInt, i, 3) { // the cake comes on the day with its number
				if _, e := shelf.Dry(l, list(0, 1), i, n); (e != api.ErrRange) != (n == i || n == 3) {
					t.Errorf("Dry of the cake %d of %v after the day %d: %v", i, l, n, e)
				}
			}
			for _, n := range list(-1, 2, math.MinInt, math.MaxInt, 0, 1) {
				isShelf := n == 0 || n == 1
				place := list(1, 1)
				place[i] = n
				_, e := shelf.Play(l, place, plain().truth)
				_, f := shelf.Left(l, place, 1-i)
				_, g := shelf.Dry(l, place, 1-i, 2)
				_, h := shelf.Day(l, place, 1-i)
				_, k := shelf.Stuck(l, place)
				for _, got := range []api.Errno{e, f, g, h, k} {
					if (got != api.ErrRange) != isShelf {
						t.Errorf("the cake %d on the shelf %d of %v: %v", i, n, l, got)
					}
				}
			}
		}
		for _, n := range list(-1, 4, math.MinInt, math.MaxInt, 0, 3) {
			if _, e := shelf.By(l, n); (e != api.ErrRange) != (n == 0 || n == 3) {
				t.Errorf("By of the day %d of %v: %v", n, l, e)
			}
		}
	}
}

// TestEmpty: nil is the same as a list without elements (R3), and "all" holds for no elements (R9).
func TestEmpty(t *testing.T) {
	full := empty()
	full.Shelves, full.Cakes, full.Put, full.Weights = []shelf.Board{}, []shelf.Cake{}, list(), []shelf.Weight{}
	for i, got := range ask(full, args{place: list(), truth: truthOf(list(1), list())}) {
		if want := ask(empty(), args{truth: truthOf(list(1), nil)})[i]; got != want {
			t.Errorf("%v, but with nil %v", got, want)
		}
	}
	for i, got := range ask(shelf.Loft{Air: []shelf.Range{}}, args{place: list(), truth: truthOf(list(), list())}) {
		if want := ask(shelf.Loft{}, args{})[i]; got != want || got.call != "ProveTruth" && got.call != "ProvePlace" && got.e != api.ErrArg {
			t.Errorf("%v, but with nil %v", got, want)
		}
	}
	if !shelf.ProveTruth(empty(), truthOf(list(1), nil)) || !shelf.ProvePlace(empty(), nil, 0) {
		t.Error("without cakes nothing is false, and nothing gets mouldy")
	}
}

// TestMemory: arguments stay as they are, and results are in memory of their own (R4).
func TestMemory(t *testing.T) {
	for _, l := range append(lofts(), two(), untrue(), largest()) {
		a := args{place: l.Put, truth: allTruths(l)[0], of: len(l.Cakes) - 1, day: l.Last}
		a.place, a.truth = roomy(a.place, -3), truthOf(roomy(a.truth.Air, -3), roomy(a.truth.Water, -3))
		l = roomyLoft(l)
		was := fmt.Sprint(toEnds(l, a))
		first := ask(l, a)
		scribble(l, a)
		if now := fmt.Sprint(toEnds(l, a)); now != was {
			t.Fatalf("arguments changed: %v, %v", was, now)
		}
		for i, again := range ask(l, a) { // the same call returns the same, whatever was done to the results
			if again != first[i] {
				t.Errorf("%v, and again %v", first[i], again)
			}
		}
	}
}

// roomy returns a copy of the list with room behind it, where marks show whether it is written to.
func roomy[T any](l []T, mark T) []T {
	out := append(make([]T, 0, len(l)+3), l...)
	rest := out[len(l):cap(out)]
	for i := range rest {
		rest[i] = mark
	}
	return out
}

func roomyLoft(l shelf.Loft) shelf.Loft {
	l.Air, l.Shelves, l.Put = roomy(l.Air, to(-3, -3)), roomy(l.Shelves, board(-3, -3)), roomy(l.Put, -3)
	l.Cakes, l.Weights = roomy(l.Cakes, cake(-3, -3, -3, -3)), roomy(l.Weights, weight(-3, -3, -3, -3))
	return l
}

// toEnds returns the arguments with their lists up to the ends of their memory.
func toEnds(l shelf.Loft, a args) (shelf.Loft, args) {
	l.Air, l.Shelves, l.Put = l.Air[:cap(l.Air)], l.Shelves[:cap(l.Shelves)], l.Put[:cap(l.Put)]
	l.Cakes, l.Weights = l.Cakes[:cap(l.Cakes)], l.Weights[:cap(l.Weights)]
	a.place, a.truth = a.place[:cap(a.place)], truthOf(a.truth.Air[:cap(a.truth.Air)], a.truth.Water[:cap(a.truth.Water)])
	return l, a
}

// scribble writes over all results.
func scribble(l shelf.Loft, a args) {
	for range 2 {
		left, _ := shelf.Play(l, a.place, a.truth)
		best, _, _ := shelf.Best(l)
		first, _ := shelf.By(l, a.day)
		out, _ := shelf.Leave(l)
		for _, l := range append([][]int{best, first, out}, left...) {
			for i := range l[:cap(l)] {
				l[:cap(l)][i] = -7
			}
		}
		r, _ := shelf.Left(l, a.place, a.of)
		for i := range r[:cap(r)] {
			r[:cap(r)][i] = to(-7, -7)
		}
	}
}

// TestResultsApart: results share no memory, neither within a call nor with those of an equal one (R4).
func TestResultsApart(t *testing.T) {
	want := [][]int{{3, 0, 0, 0}, {4, 1, 0}}
	for i := range want {
		left, _ := shelf.Play(two(), list(0, 1), plain().truth)
		l := left[i][:cap(left[i])]
		for k := range l {
			l[k] = -7
		}
		if !slices.Equal(left[1-i], want[1-i]) {
			t.Errorf("Play: %v, but only the list %d is written to", left, i)
		}
	}
	for range 2 {
		best, _, _ := shelf.Best(two())
		first, _ := shelf.By(two(), 3)
		out, _ := shelf.Leave(untrue())
		left, _ := shelf.Left(two(), list(0, 1), 1)
		if !slices.Equal(best, list(0, 1)) || !slices.Equal(first, list(0, 1)) || !slices.Equal(out, list(1)) || !slices.Equal(left, ranges(4, 4, 0, 2, 0, 0)) {
			t.Errorf("Best, By, Leave, Left: %v; %v; %v; %v", best, first, out, left)
		}
		best[0], first[0], out[0], left[0] = -7, -7, -7, to(-7, -7)
	}
}

// TestAnyArguments: each call returns, whatever its arguments are (P1), and the calls that prove say no (R11).
func TestAnyArguments(t *testing.T) {
	odd := list(0, -1, 1, 2, 3, 4, 5, 6, 9, 10, 40, 41, 100, math.MaxInt, math.MinInt, math.MaxInt-1)
	lists := [][]int{nil, {}, {0}, {1}, {-1, math.MaxInt}, {0, 1}, {1, 1}, {2, 1, 3, 3}, {7, 5}, {math.MinInt, math.MinInt}, make([]int, 5), make([]int, 1000)}
	d := &dice{state: 9}
	pick := func() int { return odd[d.roll(0, len(odd)-1)] }
	some := func() []int { return lists[d.roll(0, len(lists)-1)] }
	for i := range 6000 {
		l := two()
		if i%4 > 0 {
			l.Last, l.Put = pick(), some()
		}
		if i%4 > 1 {
			l.Air, l.Shelves = nil, nil
			for range d.roll(0, 7) {
				l.Air = append(l.Air, to(pick(), pick()))
			}
			for range d.roll(0, 4) {
				l.Shelves = append(l.Shelves, board(pick(), pick()))
			}
		}
		if i%5 == 0 {
			l.Cakes = nil
			for range d.roll(0, 6) {
				l.Cakes = append(l.Cakes, cake(pick(), pick(), pick(), pick()))
			}
		}
		if i%2 == 0 {
			for range d.roll(0, 6) {
				l.Weights = append(l.Weights, weight(pick(), pick(), pick(), pick()))
			}
		}
		a := args{place: some(), truth: truthOf(some(), some()), of: pick(), day: pick()}
		e := shelf.CheckLoft(l)
		for _, got := range ask(l, a) {
			proves := got.call == "ProveTruth" || got.call == "ProvePlace"
			if e != api.OK && (proves && got.text == "true" || !proves && (got.e != e || !got.zero)) {
				t.Errorf("%s of %v: %v, %v", got.call, l, got.text, got.e)
			}
		}
	}
}

// TestAnyOrder: weights lead to the same ranges, and to sets of the same size, in any order (P7).
func TestAnyOrder(t *testing.T) {
	d := &dice{state: 3}
	for _, l := range append(lofts(), untrue()) {
		z := clone(l)
		for i := range z.Weights {
			j := d.roll(0, i)
			z.Weights[i], z.Weights[j] = z.Weights[j], z.Weights[i]
		}
		bothSay(t, l, z, slices.Clone[[]int])
		a, b := ask(l, args{place: l.Put, day: l.Last}), ask(z, args{place: l.Put, day: l.Last})
		for i := range a {
			if a[i].call != "First" && a[i].call != "Leave" && a[i] != b[i] {
				t.Errorf("%v: %v, and with the weights in another order %v", l, a[i], b[i])
			}
		}
	}
}
