package gang_test

import (
	"fmt"
	"math"
	"slices"
	"testing"

	"anil/api"
	"anil/gang"
	"anil/steep"
)

// The rules R1 to R11, and the promises P1 to P7, as far as they are about package gang. R5, R6, R8 and P2 to P5 are tested where the numbers are: R5 and R8 in TestCheckNumbers and TestCheckRanges, R6 in gang_test.go, P2 to P5 in properties_test.go. (R10 is about strings, P6 about what is left out, and P8 about lines and files: gang has none.)

// args are the arguments of all calls beside the gang.
type args struct {
	plan, hours []int
	done        int
}

// plain are arguments that are valid for the gang of the examples.
func plain() args { return args{plan: list(2, 2), hours: list(1, 2), done: 4} }

// answer is what a call returns.
type answer struct {
	call string
	e    api.Errno
	text string // the results without the error
	zero bool   // whether all of them are zero values
}

func ask(g gang.Gang, a args) (out []answer) {
	add := func(call string, e api.Errno, zero bool, results ...any) {
		out = append(out, answer{call, e, fmt.Sprint(results...), zero})
	}
	add("CheckGang", gang.CheckGang(g), true)
	l, e := gang.Play(g, a.plan, a.hours)
	add("Play", e, len(l) == 0, l)
	b, e := gang.Busy(g, a.plan)
	add("Busy", e, len(b) == 0, b)
	n, e := gang.Late(g, a.plan)
	add("Late", e, n == 0, n)
	l, n, e = gang.Best(g)
	add("Best", e, len(l) == 0 && n == 0, l, n)
	n, e = gang.Fewest(g)
	add("Fewest", e, n == 0, n)
	l, e = gang.Left(g)
	add("Left", e, len(l) == 0, l)
	n, e = gang.Worth(g)
	add("Worth", e, n == 0, n)
	add("ProvePlan", api.OK, false, gang.ProvePlan(g, a.plan, a.done))
	return out
}

// TestErrorsInOrder: with several errors the first one of R1 counts, and no other result comes with it (R1, R2).
func TestErrorsInOrder(t *testing.T) {
	const limit, arg, rng, none, fail, short, wrong = api.ErrLimit, api.ErrArg, api.ErrRange, api.ErrNone, api.ErrFail, api.ErrShort, api.ErrFalse
	bad := args{plan: list(9), hours: list(9), done: -1}
	number, late, raws := plain(), plain(), plain()
	number.hours = list(3, 2)
	late.plan, late.hours = list(3, 3), list(2, 2)
	raws.plan = list(1, 2)
	shut := func(n, many int) gang.Gang { return changed(men(many), func(g *gang.Gang) { g.Close = n }) }
	for _, x := range []struct {
		name string
		g    gang.Gang
		a    args
		all  api.Errno // the error of each call, if it is not OK
		want map[string]api.Errno
		is   bool // what ProvePlan says
	}{
		{"a steep that is too large, and men who are too many", changed(untrue(), func(g *gang.Gang) { g.Steep.Last, g.Men = 6, -1 }), bad, limit, nil, false},
		{"a steep that is not valid, and men who are too many", changed(untrue(), func(g *gang.Gang) { g.Steep.Per, g.Men = 0, 10 }), bad, arg, nil, false},
		{"no truth, and men who are too many", changed(untrue(), func(g *gang.Gang) { g.Men = 10 }), bad, wrong, nil, false},
		{"no truth", untrue(), plain(), wrong, nil, false},
		{"too many men, and not valid", changed(men(10), func(g *gang.Gang) { g.Works = nil }), bad, limit, nil, false},
		{"too late, and not valid", changed(men(-1), func(g *gang.Gang) { g.Close = 10 }), bad, limit, nil, false},
		{"not valid", men(-1), bad, arg, nil, false},
		{"not valid, with arguments that are", men(-1), plain(), arg, nil, false},
		{"bad arguments", two(), bad, 0, map[string]api.Errno{"Play": rng, "Busy": rng, "Late": rng}, false},
		{"bad arguments, and no sure plan", shut(2, 9), bad, 0, map[string]api.Errno{"Play": rng, "Busy": rng, "Late": rng, "Best": short, "Fewest": short, "Worth": rng}, false},
		{"a bad number of hours", two(), number, 0, map[string]api.Errno{"Play": rng, "Late": none}, true},
		{"a bad number of hours, after Close", shut(3, 3), number, 0, map[string]api.Errno{"Play": rng, "Busy": fail, "Late": none, "Best": short, "Fewest": short, "Worth": short}, false},
		{"after Close", shut(4, 3), late, 0, map[string]api.Errno{"Play": fail, "Busy": fail}, false},
		{"not ripe", two(), raws, 0, nil, false},
		{"no sure plan", men(2), plain(), 0, map[string]api.Errno{"Late": none, "Best": short, "Worth": short}, false},
		{"no sure plan with any men", shut(3, 3), plain(), 0, map[string]api.Errno{"Play": fail, "Busy": fail, "Late": none, "Best": short, "Fewest": short, "Worth": short}, false},
		{"as many men as there can be", men(9), plain(), 0, map[string]api.Errno{"Late": none, "Worth": rng}, true},
		{"all is well", two(), plain(), 0, map[string]api.Errno{"Late": none}, true},
		{"no vats", easy(2, 0, 0), args{}, 0, map[string]api.Errno{"Late": none}, true},
		{"no vats, and bad arguments", easy(2, 0, 0), bad, 0, map[string]api.Errno{"Play": rng, "Busy": rng, "Late": rng}, false},
	} {
		for _, got := range ask(x.g, x.a) {
			want := x.want[got.call]
			if x.all != api.OK {
				want = x.all
			}
			if got.call == "ProvePlan" {
				if (got.text == "true") != x.is {
					t.Errorf("%s: %s is %s", x.name, got.call, got.text)
				}
				continue
			}
			if got.e != want {
				t.Errorf("%s: %s: %v, not %v", x.name, got.call, got.e, want)
			}
			if got.e != api.OK && !got.zero {
				t.Errorf("%s: %s: %s comes with an error", x.name, got.call, got.text)
			}
		}
	}
}

// TestOneBadArgument makes one argument wrong at a time, just beyond its limit and far beyond; at the limit it is right.
func TestOneBadArgument(t *testing.T) {
	g := changed(two(), func(g *gang.Gang) { g.Close = 9 })
	for v := range 2 {
		for _, n := range list(v-1, 4, math.MinInt, math.MaxInt, v, 3) {
			isHour := n == v || n == 3
			plan := list(2, 2)
			plan[v] = n
			_, e := gang.Play(g, plan, list(1, 2))
			_, f := gang.Busy(g, plan)
			_, h := gang.Late(g, plan)
			if (e == api.OK) != isHour || (f == api.OK) != isHour || (h == api.ErrRange) == isHour || !isHour && gang.ProvePlan(g, plan, 99) {
				t.Errorf("the vat %d after the hour %d: %v, %v, %v", v, n, e, f, h)
			}
		}
		for n := g.Works[v].Hours.Lo - 1; n <= g.Works[v].Hours.Hi+1; n++ {
			hours := list(1, 2)
			hours[v] = n
			isNumber := g.Works[v].Hours.Lo <= n && n <= g.Works[v].Hours.Hi
			if _, e := gang.Play(g, list(2, 2), hours); (e == api.OK) != isNumber || !isNumber && e != api.ErrRange {
				t.Errorf("the vat %d with %d hours: %v", v, n, e)
			}
		}
	}
}

// TestEmpty: nil is the same as a list without elements (R3), and sums of nothing are 0 (R9).
func TestEmpty(t *testing.T) {
	full := easy(2, 1, 1)
	full.Steep.Vats, full.Steep.Smells, full.Works = []steep.Vat{}, []steep.Smell{}, []gang.Work{}
	void := easy(2, 1, 1)
	void.Steep.Vats, void.Steep.Smells, void.Works = nil, nil, nil
	for i, got := range ask(full, args{plan: list(), hours: list()}) {
		if want := ask(void, args{})[i]; got != want {
			t.Errorf("%v, but with nil %v", got, want)
		}
	}
	for i, got := range ask(two(), args{plan: list(), hours: list()}) {
		if want := ask(two(), args{})[i]; got != want {
			t.Errorf("%v, but with nil %v", got, want)
		}
	}
	if !gang.ProvePlan(void, nil, 0) || gang.ProvePlan(void, nil, -1) {
		t.Error("without vats a plan is done in the hour 0")
	}
}

// TestMemory: arguments stay as they are, and results are in memory of their own (R4).
func TestMemory(t *testing.T) {
	for _, g := range append(gangs(), two(), untrue(), largest()) {
		var a args
		a.plan, a.hours, a.done = roomy(allPlans(g)[0], -3), roomy(allHours(g)[0], -3), 9
		g = roomyGang(g)
		was := fmt.Sprint(toEnds(g, a))
		first := ask(g, a)
		scribble(g, a)
		if now := fmt.Sprint(toEnds(g, a)); now != was {
			t.Fatalf("arguments changed: %v, %v", was, now)
		}
		for i, again := range ask(g, a) { // the same call returns the same, whatever was done to the results
			if again != first[i] {
				t.Errorf("%v, and again %v", first[i], again)
			}
		}
	}
}

// roomy returns a copy of the list with room behind it, where marks show whether it is written to.
func roomy[T any](l []T, mark T) []T {
	out := append(make([]T, 0, len(l)+3), l...)
	rest := out[len(l):cap(out)]
	for i := range rest {
		rest[i] = mark
	}
	return out
}

func roomyGang(g gang.Gang) gang.Gang {
	g.Steep.Warm, g.Steep.Vats, g.Steep.Smells = roomy(g.Steep.Warm, steep.Range{Lo: -3}), roomy(g.Steep.Vats, steep.Vat{Begin: -3}), roomy(g.Steep.Smells, smell(-3, -3, -3))
	g.Works = roomy(g.Works, work(-3, -3, -3))
	return g
}

// toEnds returns the arguments with their lists up to the ends of their memory.
func toEnds(g gang.Gang, a args) (gang.Gang, args) {
	g.Steep.Warm, g.Steep.Vats, g.Steep.Smells = g.Steep.Warm[:cap(g.Steep.Warm)], g.Steep.Vats[:cap(g.Steep.Vats)], g.Steep.Smells[:cap(g.Steep.Smells)]
	g.Works = g.Works[:cap(g.Works)]
	a.plan, a.hours = a.plan[:cap(a.plan)], a.hours[:cap(a.hours)]
	return g, a
}

// scribble writes over all results.
func scribble(g gang.Gang, a args) {
	for range 2 {
		played, _ := gang.Play(g, a.plan, a.hours)
		best, _, _ := gang.Best(g)
		left, _ := gang.Left(g)
		for _, l := range [][]int{played, best, left} {
			for i := range l[:cap(l)] {
				l[:cap(l)][i] = -7
			}
		}
		r, _ := gang.Busy(g, a.plan)
		for i := range r[:cap(r)] {
			r[:cap(r)][i] = to(-7, -7)
		}
	}
}

// TestResultsApart: results share no memory with those of an equal call (R4).
func TestResultsApart(t *testing.T) {
	few := men(2)
	for range 2 {
		played, _ := gang.Play(two(), list(2, 2), list(1, 2))
		best, _, _ := gang.Best(two())
		left, _ := gang.Left(few)
		busy, _ := gang.Busy(two(), list(2, 2))
		if !slices.Equal(played, list(0, 0, 0, 3, 1, 0)) || !slices.Equal(best, list(2, 2)) || !slices.Equal(left, list(0)) || !slices.Equal(busy, ranges(0, 0, 0, 0, 0, 0, 3, 3, 1, 3, 0, 0)) {
			t.Errorf("Play, Best, Left, Busy: %v, %v, %v, %v", played, best, left, busy)
		}
		played[0], best[0], left[0], busy[0] = -7, -7, -7, to(-7, -7)
	}
}

// TestAnyArguments: each call returns, whatever its arguments are (P1), and the call that proves says no (R11).
func TestAnyArguments(t *testing.T) {
	odd := list(0, -1, 1, 2, 3, 4, 5, 9, 10, 20, math.MaxInt, math.MinInt, math.MaxInt-1)
	lists := [][]int{nil, {}, {0}, {-1, math.MaxInt}, {2, 3}, {2, 2}, {1, 2}, {math.MinInt, math.MinInt}, make([]int, 3), make([]int, 1000)}
	d := &dice{state: 9}
	pick := func() int { return odd[d.roll(0, len(odd)-1)] }
	for i := range 4000 {
		g := two()
		if i%4 > 0 {
			g.Men, g.Close = pick(), pick()
		}
		if i%4 > 1 {
			g.Works = nil
			for range d.roll(1, 3) {
				g.Works = append(g.Works, work(pick(), pick(), pick()))
			}
		}
		if i%8 > 5 {
			g.Steep.Last, g.Steep.Vats[1].Begin = pick(), pick()
			g.Steep.Smells = append(g.Steep.Smells, smell(pick(), pick(), pick()))
		}
		if i%16 > 13 {
			g.Steep = steep.Steep{}
		}
		a := args{plan: lists[d.roll(0, len(lists)-1)], hours: lists[d.roll(0, len(lists)-1)], done: pick()}
		e := gang.CheckGang(g)
		for _, got := range ask(g, a) {
			proves := got.call == "ProvePlan"
			if e != api.OK && (proves && got.text == "true" || !proves && (got.e != e || !got.zero)) {
				t.Errorf("%s of %v: %v, %v", got.call, g, got.text, got.e)
			}
		}
	}
}

// TestAnyOrder: smells lead to the same results in any order (P7).
func TestAnyOrder(t *testing.T) {
	many := two(smell(0, 1, ripe), smell(1, 2, ripe), smell(0, 0, raw), smell(1, 1, raw), smell(0, 2, ripe))
	d := &dice{state: 3}
	for _, g := range append(gangs(), many) {
		z := clone(g)
		for i := range z.Steep.Smells {
			j := d.roll(0, i)
			z.Steep.Smells[i], z.Steep.Smells[j] = z.Steep.Smells[j], z.Steep.Smells[i]
		}
		a := args{plan: allPlans(g)[0], hours: allHours(g)[0], done: 9}
		other := ask(z, a)
		for i, one := range ask(g, a) {
			if one != other[i] {
				t.Errorf("%v: %v, and with the smells in another order %v", g, one, other[i])
			}
		}
	}
}
