package river_test

import (
	"fmt"
	"math"
	"slices"
	"testing"

	"anil/api"
	"anil/river"
)

// The rules R1 to R11, and the promises P1 to P7, as far as they are about package river. R5, R6, R8 and P2 to P6 are tested where the numbers are: R5 and R8 in TestCheckNumbers and TestCheckRanges, R6 in river_test.go, P2 to P6 in properties_test.go. (R10 is about strings, and P8 about lines and files: river has none.)

// args are the arguments of all calls beside the river.
type args struct {
	plan      []int
	truth     river.Truth
	day, many int
}

// plain are arguments that are valid for the river of the examples.
func plain() args {
	return args{plan: list(0), truth: truthOf(list(2, 3, 0, 5), list(0, 1, 5, 0)), day: 3, many: 1}
}

// answer is what a call returns.
type answer struct {
	call string
	e    api.Errno
	text string // the results without the error
	zero bool   // whether all of them are zero values
}

func ask(r river.River, a args) (out []answer) {
	add := func(call string, e api.Errno, zero bool, results ...any) {
		out = append(out, answer{call, e, fmt.Sprint(results...), zero})
	}
	add("CheckRiver", river.CheckRiver(r), true)
	l, e := river.Play(r, a.plan, a.truth)
	add("Play", e, len(l) == 0, l)
	n, e := river.Good(r, a.day)
	add("Good", e, n == 0, n)
	b, e := river.Tank(r, a.plan)
	add("Tank", e, len(b) == 0, b)
	n, e = river.Lasts(r, a.plan)
	add("Lasts", e, n == 0, n)
	n, e = river.Dry(r, a.plan)
	add("Dry", e, n == 0, n)
	l, e = river.Fewest(r)
	add("Fewest", e, len(l) == 0, l)
	n, e = river.Need(r)
	add("Need", e, n == 0, n)
	l, e = river.Storm(r, a.day)
	add("Storm", e, len(l) == 0, l)
	n, e = river.First(r)
	add("First", e, n == 0, n)
	l, e = river.Leave(r)
	add("Leave", e, len(l) == 0, l)
	add("ProveTruth", api.OK, false, river.ProveTruth(r, a.truth))
	add("ProvePlan", api.OK, false, river.ProvePlan(r, a.plan, a.many))
	return out
}

// errors says for some calls which error they return.
type errors map[string]api.Errno

// TestErrorsInOrder: with several errors the first one of R1 counts, and no other result comes with it (R1, R2).
func TestErrorsInOrder(t *testing.T) {
	const limit, arg, rng, no, short, wrong = api.ErrLimit, api.ErrArg, api.ErrRange, api.ErrNone, api.ErrShort, api.ErrFalse
	bad := args{plan: list(1, 0), truth: truthOf(list(9), nil), day: 4, many: 9}
	noPlan, noTruth, noDay, other, fewer := plain(), plain(), plain(), plain(), plain()
	noPlan.plan, noTruth.truth, noDay.day, other.plan, fewer.many = list(0, 4), river.Truth{}, -1, list(1), 0
	draw := func(r *river.River) { r.Draw = 100 }
	wide := func(r *river.River) { r.Salt, r.Mud[0] = ranges(0, 9, 0, 9, 0, 9, 0, 9), to(0, 9) }
	dry := func(r *river.River) { r.Use[0] = 99 }
	allWrong := errors{"Good": wrong, "Tank": wrong, "Lasts": wrong, "Dry": wrong, "Fewest": wrong, "Need": wrong, "Storm": wrong}
	for _, x := range []struct {
		name       string
		r          river.River
		a          args
		all        api.Errno // the error of each call, if it is not OK
		want       errors
		tell, sure bool // what ProveTruth and ProvePlan say
	}{
		{"too long, and not valid", changed(untrue(), func(r *river.River) { r.Last, r.Draw = 6, -1 }), bad, limit, nil, false, false},
		{"too many gauges, and not valid", changed(four(make([]river.Gauge, 6)...), func(r *river.River) { r.Last = -1 }), bad, limit, nil, false, false},
		{"too many gauges, and a bad one", four(slices.Repeat([]river.Gauge{salt(9, 0, 0)}, 6)...), plain(), limit, nil, false, false},
		{"not valid", changed(untrue(), draw), bad, arg, nil, false, false},
		{"not valid, with arguments that are", changed(four(), draw), plain(), arg, nil, false, false},
		{"too wide, and not valid", changed(changed(four(), wide), draw), bad, arg, nil, false, false},
		{"too wide", changed(four(), wide), bad, limit, nil, false, false},
		{"too wide, with arguments that are valid", changed(four(), wide), plain(), limit, nil, false, false},
		{"bad arguments, without a truth", untrue(), bad, 0, errors{"Play": rng, "Good": rng, "Tank": rng, "Lasts": rng, "Dry": rng, "Fewest": wrong, "Need": wrong, "Storm": rng}, false, false},
		{"a bad plan, without a truth", untrue(), noPlan, 0, errors{"Play": rng, "Good": wrong, "Tank": rng, "Lasts": rng, "Dry": rng, "Fewest": wrong, "Need": wrong, "Storm": wrong}, false, false},
		{"a bad day, without a truth", untrue(), noDay, 0, errors{"Good": rng, "Tank": wrong, "Lasts": wrong, "Dry": wrong, "Fewest": wrong, "Need": wrong, "Storm": rng}, false, false},
		{"without a truth", untrue(), plain(), 0, allWrong, false, false},
		{"without a truth, and dry", changed(untrue(), dry), plain(), 0, allWrong, false, false},
		{"bad arguments, and dry", changed(four(), dry), bad, 0, errors{"Play": rng, "Good": rng, "Tank": rng, "Lasts": rng, "Dry": rng, "Fewest": short, "Need": short, "Storm": rng, "First": no}, false, false},
		{"dry", changed(four(), dry), plain(), 0, errors{"Fewest": short, "Need": short, "Storm": short, "First": no}, true, false},
		{"dry in this tank", changed(four(), func(r *river.River) { r.Size = 8 }), plain(), 0, errors{"Fewest": short, "Storm": short, "First": no}, true, false},
		{"bad arguments", four(), bad, 0, errors{"Play": rng, "Good": rng, "Tank": rng, "Lasts": rng, "Dry": rng, "Storm": rng, "First": no}, false, false},
		{"no plan", four(), noPlan, 0, errors{"Play": rng, "Tank": rng, "Lasts": rng, "Dry": rng, "Storm": short, "First": no}, true, false},
		{"no truth", four(), noTruth, 0, errors{"Play": rng, "Dry": no, "Storm": short, "First": no}, false, true},
		{"no day", four(), noDay, 0, errors{"Good": rng, "Dry": no, "Storm": rng, "First": no}, true, true},
		{"a plan that is not sure", four(), other, 0, errors{"Storm": short, "First": no}, true, false},
		{"a plan of too many days", four(), fewer, 0, errors{"Dry": no, "Storm": short, "First": no}, true, false},
		{"one day", still(), bad, 0, errors{"Play": rng, "Good": rng, "Tank": rng, "Lasts": rng, "Dry": rng, "Storm": rng, "First": no}, false, false},
		{"all is well", four(), plain(), 0, errors{"Dry": no, "Storm": short, "First": no}, true, true},
		{"all is well, whatever storms", used(3, 0, 0, 0), plain(), 0, errors{"Dry": no, "First": no}, true, true},
	} {
		for _, got := range ask(x.r, x.a) {
			want := x.want[got.call]
			if x.all != api.OK {
				want = x.all
			}
			if proves, ok := map[string]bool{"ProveTruth": x.tell, "ProvePlan": x.sure}[got.call]; ok {
				if (got.text == "true") != proves {
					t.Errorf("%s: %s is %s", x.name, got.call, got.text)
				}
				continue
			}
			if got.e != want {
				t.Errorf("%s: %s: %v, not %v", x.name, got.call, got.e, want)
			}
			if got.e != api.OK && !got.zero {
				t.Errorf("%s: %s: %s comes with an error", x.name, got.call, got.text)
			}
		}
	}
}

// TestOneBadArgument makes one argument wrong at a time, just beyond its limit and far beyond; at the limit it is right.
func TestOneBadArgument(t *testing.T) {
	for _, r := range []river.River{four(), untrue()} {
		for _, n := range list(-1, 4, math.MinInt, math.MaxInt, 0, 3) {
			isDay := n == 0 || n == 3
			_, e := river.Good(r, n)
			_, f := river.Storm(r, n)
			_, g := river.Tank(r, list(n))
			_, h := river.Lasts(r, list(n))
			_, k := river.Dry(r, list(n))
			_, m := river.Play(r, list(n), plain().truth)
			for _, got := range []api.Errno{e, f, g, h, k, m} {
				if (got != api.ErrRange) != isDay {
					t.Errorf("the day %d of %v: %v", n, r, got)
				}
			}
		}
		for day := range 4 {
			for _, isMud := range []bool{false, true} {
				in := r.Salt[day]
				if isMud {
					in = r.Mud[day]
				}
				for _, n := range list(in.Lo-1, in.Hi+1, math.MinInt, math.MaxInt, in.Lo, in.Hi) {
					x := plain().truth
					if isMud {
						x.Mud[day] = n
					} else {
						x.Salt[day] = n
					}
					if _, e := river.Play(r, nil, x); (e != api.ErrRange) != (n == in.Lo || n == in.Hi) {
						t.Errorf("%v of %v: %v", x, r, e)
					}
				}
			}
		}
	}
}

// TestEmpty: nil is the same as a list without elements (R3), and "all" holds for no elements (R9).
func TestEmpty(t *testing.T) {
	full := changed(still(), func(r *river.River) { r.Gauges = []river.Gauge{} })
	for i, got := range ask(full, args{plan: list(), truth: truthOf(list(0), list(0))}) {
		if want := ask(still(), args{truth: truthOf(list(0), list(0))})[i]; got != want {
			t.Errorf("%v, but with nil %v", got, want)
		}
	}
	none := river.River{Salt: []river.Range{}, Mud: []river.Range{}, Use: list(), Gauges: []river.Gauge{}}
	for i, got := range ask(none, args{plan: list(), truth: truthOf(list(), list())}) {
		if want := ask(river.River{}, args{})[i]; got != want || got.call != "ProveTruth" && got.call != "ProvePlan" && got.e != api.ErrArg {
			t.Errorf("%v, but with nil %v", got, want)
		}
	}
	if !river.ProveTruth(still(), truthOf(list(0), list(0))) || !river.ProvePlan(still(), nil, 0) {
		t.Error("without gauges nothing is false, and without use water is not lacking")
	}
}

// TestMemory: arguments stay as they are, and results are in memory of their own (R4).
func TestMemory(t *testing.T) {
	for _, r := range append(rivers(), four(), untrue(), largest()) {
		plans, x := allPlans(r), allTruths(r)[0]
		a := args{plan: roomy(plans[len(plans)-1], -3), truth: truthOf(roomy(x.Salt, -3), roomy(x.Mud, -3)), day: r.Last, many: 9}
		r = roomyRiver(r)
		was := fmt.Sprint(toEnds(r, a))
		first := ask(r, a)
		scribble(r, a)
		if now := fmt.Sprint(toEnds(r, a)); now != was {
			t.Fatalf("arguments changed: %v, %v", was, now)
		}
		for i, again := range ask(r, a) { // the same call returns the same, whatever was done to the results
			if again != first[i] {
				t.Errorf("%v, and again %v", first[i], again)
			}
		}
	}
}

// roomy returns a copy of the list with room behind it, where marks show whether it is written to.
func roomy[T any](l []T, mark T) []T {
	out := append(make([]T, 0, len(l)+3), l...)
	rest := out[len(l):cap(out)]
	for i := range rest {
		rest[i] = mark
	}
	return out
}

func roomyRiver(r river.River) river.River {
	r.Salt, r.Mud = roomy(r.Salt, to(-3, -3)), roomy(r.Mud, to(-3, -3))
	r.Use, r.Gauges = roomy(r.Use, -3), roomy(r.Gauges, salt(-3, -3, -3))
	return r
}

// toEnds returns the arguments with their lists up to the ends of their memory.
func toEnds(r river.River, a args) (river.River, args) {
	r.Salt, r.Mud = r.Salt[:cap(r.Salt)], r.Mud[:cap(r.Mud)]
	r.Use, r.Gauges = r.Use[:cap(r.Use)], r.Gauges[:cap(r.Gauges)]
	a.plan, a.truth = a.plan[:cap(a.plan)], truthOf(a.truth.Salt[:cap(a.truth.Salt)], a.truth.Mud[:cap(a.truth.Mud)])
	return r, a
}

// scribble writes over all results.
func scribble(r river.River, a args) {
	for range 2 {
		left, _ := river.Play(r, a.plan, a.truth)
		fewest, _ := river.Fewest(r)
		storm, _ := river.Storm(r, a.day)
		out, _ := river.Leave(r)
		for _, l := range [][]int{left, fewest, storm, out} {
			for i := range l[:cap(l)] {
				l[:cap(l)][i] = -7
			}
		}
		bounds, _ := river.Tank(r, a.plan)
		for i := range bounds[:cap(bounds)] {
			bounds[:cap(bounds)][i] = to(-7, -7)
		}
	}
}

// TestResultsApart: results share no memory with those of an equal call (R4).
func TestResultsApart(t *testing.T) {
	r := used(3, 3, 0, 0)
	for range 2 {
		left, _ := river.Play(r, list(0), plain().truth)
		fewest, _ := river.Fewest(r)
		storm, _ := river.Storm(r, 0)
		out, _ := river.Leave(untrue())
		bounds, _ := river.Tank(r, list(0))
		if !slices.Equal(left, list(6, 3, 3, 3)) || !slices.Equal(fewest, list(0)) || !slices.Equal(storm, list(0)) || !slices.Equal(out, list(0)) || !slices.Equal(bounds, ranges(6, 6, 3, 3, 3, 3, 3, 3)) {
			t.Errorf("Play, Fewest, Storm, Leave, Tank: %v; %v; %v; %v; %v", left, fewest, storm, out, bounds)
		}
		left[0], fewest[0], storm[0], out[0], bounds[0] = -7, -7, -7, -7, to(-7, -7)
	}
}

// TestAnyArguments: each call returns, whatever its arguments are (P1), and the calls that prove say no (R11).
func TestAnyArguments(t *testing.T) {
	odd := list(0, -1, 1, 2, 3, 4, 5, 6, 9, 10, 99, 100, 101, math.MaxInt, math.MinInt, math.MaxInt-1)
	lists := [][]int{nil, {}, {0}, {1}, {-1, math.MaxInt}, {0, 1}, {1, 1}, {2, 3, 0, 5}, {0, 1, 5, 0}, {math.MinInt, math.MinInt}, make([]int, 6), make([]int, 1000)}
	d := &dice{state: 9}
	pick := func() int { return odd[d.roll(0, len(odd)-1)] }
	some := func() []int { return lists[d.roll(0, len(lists)-1)] }
	for i := range 6000 {
		r := four()
		if i%4 > 0 {
			r.Last, r.Use = pick(), some()
		}
		if i%4 > 1 {
			r.Salt, r.Mud = nil, nil
			for range d.roll(0, 7) {
				r.Salt, r.Mud = append(r.Salt, to(pick(), pick())), append(r.Mud, to(pick(), pick()))
			}
		}
		if i%5 == 0 {
			r.Size, r.Start, r.Draw, r.Sweet, r.Clear = pick(), pick(), pick(), pick(), pick()
		}
		if i%2 == 0 {
			for range d.roll(0, 6) {
				r.Gauges = append(r.Gauges, river.Gauge{Day: pick(), Mud: d.roll(0, 1) == 1, Read: to(pick(), pick())})
			}
		}
		a := args{plan: some(), truth: truthOf(some(), some()), day: pick(), many: pick()}
		e := river.CheckRiver(r)
		for _, got := range ask(r, a) {
			proves := got.call == "ProveTruth" || got.call == "ProvePlan"
			if e != api.OK && (proves && got.text == "true" || !proves && (got.e != e || !got.zero)) {
				t.Errorf("%s of %v: %v, %v", got.call, r, got.text, got.e)
			}
		}
	}
}

// TestAnyOrder: gauges lead to the same ranges, and to sets of the same size, in any order (P7).
func TestAnyOrder(t *testing.T) {
	d := &dice{state: 3}
	for _, r := range append(rivers(), untrue()) {
		z := clone(r)
		for i := range z.Gauges {
			j := d.roll(0, i)
			z.Gauges[i], z.Gauges[j] = z.Gauges[j], z.Gauges[i]
		}
		if a, b := leaveOf(t, r), leaveOf(t, z); len(a) != len(b) {
			t.Errorf("Leave of %v: %v, but of %v: %v", r, a, z, b)
		}
		for _, plan := range plansOf(r) {
			a := args{plan: plan, truth: allTruths(r)[0], day: d.roll(0, r.Last), many: len(plan)}
			one, other := ask(r, a), ask(z, a)
			for i := range one {
				isIndex := one[i].call == "First" || one[i].call == "Leave"
				if one[i].e != other[i].e || !isIndex && one[i] != other[i] {
					t.Errorf("%v: %v, and with the gauges in another order %v", r, one[i], other[i])
				}
			}
		}
	}
}
