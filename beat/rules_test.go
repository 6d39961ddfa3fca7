package beat_test

import (
	"fmt"
	"math"
	"slices"
	"testing"

	"anil/api"
	"anil/beat"
)

// The rules R1 to R11, and the promises P1 to P7, as far as they are about package beat. R5, R6, R8 and P2 to P6 are tested where the numbers are: R5 and R8 in TestCheckNumbers and TestCheckRanges, R6 and P4 in beat_test.go, P2, P3, P5 and P6 in properties_test.go. (R10 is about strings, and P8 about lines and files: beat has none.)

// args are the arguments of all calls beside the beating.
type args struct {
	course   beat.Course
	endings  []int
	in, hour int
	worst    int
}

// plain are arguments that are valid for the beating of the examples.
func plain() args {
	return args{course: course(0, 2, 3), endings: list(3, 3), in: 1, hour: 2, worst: 99}
}

// answer is what a call returns.
type answer struct {
	call string
	e    api.Errno
	text string // the results without the error
	zero bool   // whether all of them are zero values
}

func ask(b beat.Beating, a args) (out []answer) {
	add := func(call string, e api.Errno, zero bool, results ...any) {
		out = append(out, answer{call, e, fmt.Sprint(results...), zero})
	}
	add("CheckBeating", beat.CheckBeating(b), true)
	l, e := beat.Play(b, a.course, a.endings)
	add("Play", e, len(l) == 0, l)
	r, e := beat.Bounds(b)
	add("Bounds", e, len(r) == 0, r)
	n, e := beat.Done(b, a.in, a.hour)
	add("Done", e, n == 0, n)
	x, e := beat.Losses(b, a.endings)
	add("Losses", e, x == to(0, 0), x)
	l, n, e = beat.Best(b)
	add("Best", e, len(l) == 0 && n == 0, l, n)
	v, h, n, e := beat.Ask(b)
	add("Ask", e, v == 0 && h == 0 && n == 0, v, h, n)
	n, e = beat.First(b)
	add("First", e, n == 0, n)
	l, e = beat.Leave(b)
	add("Leave", e, len(l) == 0, l)
	add("ProveTruth", api.OK, false, beat.ProveTruth(b, a.course))
	add("ProveBest", api.OK, false, beat.ProveBest(b, a.endings, a.worst))
	return out
}

// TestErrorsInOrder: with several errors the first one of R1 counts, and no other result comes with it (R1, R2).
func TestErrorsInOrder(t *testing.T) {
	const limit, arg, rng, none, wrong = api.ErrLimit, api.ErrArg, api.ErrRange, api.ErrNone, api.ErrFalse
	bad := args{course: course(9, 9), endings: list(7), in: 2, hour: 9, worst: 999}
	changed := func(change func(b *beat.Beating)) beat.Beating {
		b := untrue()
		change(&b)
		return b
	}
	widened := func(b *beat.Beating) { b.Sun, b.Vats[0].Needs, b.Vats[1].Needs = to(0, 4), to(0, 6), to(2, 7) }
	noHour, noEnding, noCourse := plain(), plain(), plain()
	noHour.hour, noEnding.endings, noCourse.course = 7, list(3, 7), course(0, 2, 4)
	if n := len(allCourses(changed(widened))); n != 210 {
		t.Fatalf("the beating has %d courses", n)
	}
	both := []string{"ProveTruth", "ProveBest"}
	falseArgs := map[string]api.Errno{"Play": rng, "Bounds": wrong, "Done": rng, "Losses": rng, "Best": wrong, "Ask": wrong}
	for _, x := range []struct {
		name string
		b    beat.Beating
		a    args
		all  api.Errno // the error of each call, if it is not OK
		want map[string]api.Errno
		is   []string // the calls that prove, and say yes
	}{
		{"too many samples", changed(func(b *beat.Beating) { b.Samples = make([]beat.Sample, 6) }), bad, limit, nil, nil},
		{"too late, and not valid", changed(func(b *beat.Beating) { b.Last, b.Sun = 10, to(1, 0) }), bad, limit, nil, nil},
		{"too many vats, and not valid", beat.Beating{Last: -1, Vats: make([]beat.Vat, 4)}, bad, limit, nil, nil},
		{"not valid", changed(func(b *beat.Beating) { b.Vats[1].Late = 21 }), bad, arg, nil, nil},
		{"not valid, and no vats", beat.Beating{Last: -1}, bad, arg, nil, nil},
		{"too wide, and not valid", changed(func(b *beat.Beating) { widened(b); b.Vats[1].Late = 21 }), bad, arg, nil, nil},
		{"too wide", changed(widened), bad, limit, nil, nil},
		{"too wide, with arguments that are valid", changed(widened), plain(), limit, nil, nil},
		{"bad arguments, without a truth", untrue(), bad, 0, falseArgs, nil},
		{"a bad hour, without a truth", untrue(), noHour, 0, map[string]api.Errno{"Bounds": wrong, "Done": rng, "Losses": wrong, "Best": wrong, "Ask": wrong}, nil},
		{"bad endings, without a truth", untrue(), noEnding, 0, map[string]api.Errno{"Play": rng, "Bounds": wrong, "Done": wrong, "Losses": rng, "Best": wrong, "Ask": wrong}, nil},
		{"without a truth", untrue(), plain(), 0, map[string]api.Errno{"Bounds": wrong, "Done": wrong, "Losses": wrong, "Best": wrong, "Ask": wrong}, nil},
		{"bad arguments", two(), bad, 0, map[string]api.Errno{"Play": rng, "Done": rng, "Losses": rng, "First": none}, nil},
		{"a bad course", two(), noCourse, 0, map[string]api.Errno{"Play": rng, "First": none}, both[1:]},
		{"bad endings", two(), noEnding, 0, map[string]api.Errno{"Play": rng, "Losses": rng, "First": none}, both[:1]},
		{"a bad hour", two(), noHour, 0, map[string]api.Errno{"Done": rng, "First": none}, both},
		{"without vats", beat.Beating{}, bad, 0, map[string]api.Errno{"Play": rng, "Done": rng, "Losses": rng, "Ask": none, "First": none}, nil},
		{"all is well", two(), plain(), 0, map[string]api.Errno{"First": none}, both},
	} {
		for _, got := range ask(x.b, x.a) {
			want := x.want[got.call]
			if x.all != api.OK {
				want = x.all
			}
			if slices.Contains(both, got.call) {
				if (got.text == "true") != slices.Contains(x.is, got.call) {
					t.Errorf("%s: %s is %s", x.name, got.call, got.text)
				}
				continue
			}
			if got.e != want {
				t.Errorf("%s: %s: %v, not %v", x.name, got.call, got.e, want)
			}
			if got.e != api.OK && !got.zero {
				t.Errorf("%s: %s: %s comes with an error", x.name, got.call, got.text)
			}
		}
	}
}

// TestOneBadArgument makes one argument wrong at a time, just beyond its limit and far beyond; at the limit it is right.
func TestOneBadArgument(t *testing.T) {
	for _, b := range []beat.Beating{two(), untrue()} {
		for _, n := range list(-1, 2, math.MinInt, math.MaxInt) {
			if _, e := beat.Done(b, n, 2); e != api.ErrRange {
				t.Errorf("Done of the vat %d of %v: %v", n, b, e)
			}
		}
		for _, n := range list(-1, 7, math.MinInt, math.MaxInt, 0, 6) {
			isHour := n == 0 || n == 6
			for v := range 2 {
				endings := list(3, 3)
				endings[v] = n
				_, e := beat.Done(b, v, n)
				_, f := beat.Losses(b, endings)
				_, g := beat.Play(b, course(1, 3, 3), endings)
				if (e != api.ErrRange) != isHour || (f != api.ErrRange) != isHour || (g == api.OK) != isHour || !isHour && beat.ProveBest(b, endings, 999) {
					t.Errorf("the vat %d of %v at the hour %d: %v, %v, %v", v, b, n, e, f, g)
				}
			}
		}
	}
}

// TestEmpty: nil is the same as a list without elements (R3), and sums of nothing are 0 (R9).
func TestEmpty(t *testing.T) {
	full := beat.Beating{Vats: []beat.Vat{}, Samples: []beat.Sample{}}
	for i, got := range ask(full, args{course: course(0, list()...), endings: list()}) {
		if want := ask(beat.Beating{}, args{})[i]; got != want {
			t.Errorf("%v, but with nil %v", got, want)
		}
	}
	for i, got := range ask(two(), args{course: course(0, list()...), endings: list()}) {
		if want := ask(two(), args{})[i]; got != want {
			t.Errorf("%v, but with nil %v", got, want)
		}
	}
	if !beat.ProveTruth(beat.Beating{}, beat.Course{}) || !beat.ProveBest(beat.Beating{}, nil, 0) || beat.ProveBest(beat.Beating{}, nil, -1) {
		t.Error("without vats nothing is lost")
	}
}

// TestMemory: arguments stay as they are, and results are in memory of their own (R4).
func TestMemory(t *testing.T) {
	for _, b := range append(beatings(), two(), untrue(), largest(not(0, 3))) {
		a := args{in: len(b.Vats) - 1, hour: b.Last, worst: 9}
		a.course = allCourses(b)[0]
		a.course.Needs, a.endings = roomy(a.course.Needs, -3), roomy(allEndings(b)[0], -3)
		b.Vats, b.Samples = roomy(b.Vats, vat(-3, -3, -3, -3)), roomy(b.Samples, is(-3, -3))
		was := fmt.Sprint(toEnds(b, a))
		first := ask(b, a)
		scribble(b, a)
		if now := fmt.Sprint(toEnds(b, a)); now != was {
			t.Fatalf("arguments changed: %v, %v", was, now)
		}
		for i, again := range ask(b, a) { // the same call returns the same, whatever was done to the results
			if again != first[i] {
				t.Errorf("%v, and again %v", first[i], again)
			}
		}
	}
}

// roomy returns a copy of the list with room behind it, where marks show whether it is written to.
func roomy[T any](l []T, mark T) []T {
	out := append(make([]T, 0, len(l)+3), l...)
	rest := out[len(l):cap(out)]
	for i := range rest {
		rest[i] = mark
	}
	return out
}

// toEnds returns the arguments with their lists up to the ends of their memory.
func toEnds(b beat.Beating, a args) (beat.Beating, args) {
	b.Vats, b.Samples = b.Vats[:cap(b.Vats)], b.Samples[:cap(b.Samples)]
	a.course.Needs, a.endings = a.course.Needs[:cap(a.course.Needs)], a.endings[:cap(a.endings)]
	return b, a
}

// scribble writes over all results.
func scribble(b beat.Beating, a args) {
	for range 2 {
		played, _ := beat.Play(b, a.course, a.endings)
		best, _, _ := beat.Best(b)
		left, _ := beat.Leave(b)
		for _, l := range [][]int{played, best, left} {
			for i := range l[:cap(l)] {
				l[:cap(l)][i] = -7
			}
		}
		r, _ := beat.Bounds(b)
		for i := range r[:cap(r)] {
			r[:cap(r)][i] = to(-7, -7)
		}
	}
}

// TestResultsApart: results share no memory with those of an equal call (R4).
func TestResultsApart(t *testing.T) {
	for range 2 {
		played, _ := beat.Play(two(), course(1, 4, 3), list(3, 3))
		best, _, _ := beat.Best(two())
		left, _ := beat.Leave(untrue())
		bounds, _ := beat.Bounds(two())
		if !slices.Equal(played, list(6, 1)) || !slices.Equal(best, list(4, 3)) || !slices.Equal(left, list(0)) || !slices.Equal(bounds, ranges(2, 5, 3, 4)) {
			t.Errorf("Play, Best, Leave, Bounds: %v, %v, %v, %v", played, best, left, bounds)
		}
		played[0], best[0], left[0], bounds[0] = -7, -7, -7, to(-7, -7)
	}
}

// TestAnyArguments: each call returns, whatever its arguments are (P1), and the calls that prove say no (R11).
func TestAnyArguments(t *testing.T) {
	odd := list(0, -1, 1, 2, 3, 4, 5, 9, 10, 20, 21, 100, math.MaxInt, math.MinInt, math.MaxInt-1)
	lists := [][]int{nil, {}, {0}, {-1, math.MaxInt}, {2, 3}, {3, 3}, {math.MinInt, math.MinInt}, make([]int, 3), make([]int, 1000)}
	d := &dice{state: 9}
	pick := func() int { return odd[d.roll(0, len(odd)-1)] }
	for i := range 4000 {
		b := two()
		if i%4 > 0 {
			b.Last = pick()
		}
		if i%4 > 1 {
			b.Sun, b.Vats = to(pick(), pick()), nil
			for range d.roll(0, 4) {
				b.Vats = append(b.Vats, vat(pick(), pick(), pick(), pick()))
			}
		}
		if i%2 == 0 {
			for range d.roll(0, 6) {
				b.Samples = append(b.Samples, sample(pick(), pick(), i%3 == 0))
			}
		}
		a := args{course: course(pick(), lists[d.roll(0, len(lists)-1)]...), endings: lists[d.roll(0, len(lists)-1)], in: pick(), hour: pick(), worst: pick()}
		e := beat.CheckBeating(b)
		for _, got := range ask(b, a) {
			proves := got.call == "ProveTruth" || got.call == "ProveBest"
			if e != api.OK && (proves && got.text == "true" || !proves && (got.e != e || !got.zero)) {
				t.Errorf("%s of %v: %v, %v", got.call, b, got.text, got.e)
			}
		}
	}
}

// TestAnyOrder: samples lead to the same ranges, and to sets of the same size, in any order (P7).
func TestAnyOrder(t *testing.T) {
	d := &dice{state: 3}
	for _, b := range append(beatings(), untrue()) {
		z := clone(b)
		for i := range z.Samples {
			j := d.roll(0, i)
			z.Samples[i], z.Samples[j] = z.Samples[j], z.Samples[i]
		}
		x := args{course: allCourses(b)[0], endings: make([]int, len(b.Vats)), worst: 9}
		for v := range max(1, len(b.Vats)) {
			x.in, x.hour = v, b.Last
			one, other := ask(b, x), ask(z, x)
			for i := range one {
				if one[i].call != "First" && one[i].call != "Leave" && one[i] != other[i] {
					t.Errorf("%v: %v, and with the samples in another order %v", b, one[i], other[i])
				}
			}
		}
		l, m := leaveOf(t, b), leaveOf(t, z)
		if len(l) != len(m) {
			t.Errorf("Leave of %v: %v, and of %v: %v", b.Samples, l, z.Samples, m)
		}
	}
}
