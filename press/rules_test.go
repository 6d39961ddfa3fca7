package press_test

import (
	"fmt"
	"math"
	"slices"
	"testing"

	"anil/api"
	"anil/beat"
	"anil/press"
	"anil/vat"
)

// The rules R1 to R11, and the promises P1 to P7, as far as they are about package press. R5, R6, R8 and P2 to P5 are tested where the numbers are: R5 and R8 in TestCheckNumbers, R6 in press_test.go, P2 to P5 in properties_test.go. (R10 is about strings, P6 about what is left out, and P8 about lines and files: press has none.)

// args are the arguments of all calls beside the works.
type args struct {
	plan   []int
	ending int
}

// plain are arguments that are valid for the works of the examples.
func plain() args { return args{plan: list(0, 1), ending: 5} }

// answer is what a call returns.
type answer struct {
	call string
	e    api.Errno
	text string // the results without the error
	zero bool   // whether all of them are zero values
}

func ask(w press.Works, a args) (out []answer) {
	add := func(call string, e api.Errno, zero bool, results ...any) {
		out = append(out, answer{call, e, fmt.Sprint(results...), zero})
	}
	add("CheckWorks", press.CheckWorks(w), true)
	r, e := press.Muds(w)
	add("Muds", e, len(r) == 0, r)
	r, e = press.Hours(w)
	add("Hours", e, len(r) == 0, r)
	r, e = press.Cakes(w)
	add("Cakes", e, len(r) == 0, r)
	r, e = press.Play(w, a.plan)
	add("Play", e, len(r) == 0, r)
	n, e := press.Late(w, a.plan)
	add("Late", e, n == 0, n)
	l, n, e := press.Best(w)
	add("Best", e, len(l) == 0 && n == 0, l, n)
	n, e = press.More(w)
	add("More", e, n == 0, n)
	l, e = press.Wise(w)
	add("Wise", e, len(l) == 0, l)
	add("ProvePlan", api.OK, false, press.ProvePlan(w, a.plan, a.ending))
	return out
}

// errors says for some calls which error they return.
type errors map[string]api.Errno

// TestErrorsInOrder: with several errors the first one of R1 counts, and no other result comes with it (R1, R2).
func TestErrorsInOrder(t *testing.T) {
	const limit, arg, rng, none, wrong = api.ErrLimit, api.ErrArg, api.ErrRange, api.ErrNone, api.ErrFalse
	bad := args{plan: list(0, 3), ending: -1}
	short := args{plan: list(0), ending: 99}
	one, slow := args{plan: list(0, 0), ending: 9}, args{plan: list(0, 0), ending: 8}
	wide := func(w *press.Works) { w.Yard.Fields, w.Beating.Vats[0].Needs = fields(0, 9, 0, 9, 0, 9), span(0, 7) }
	boxes := func(n int) func(w *press.Works) { return func(w *press.Works) { w.Boxes = n } }
	for _, x := range []struct {
		name string
		w    press.Works
		a    args
		all  api.Errno // the error of each call, if it is not OK
		want errors
		is   bool // what ProvePlan says
	}{
		{"a yard that is too large, and boxes too many", changed(changed(two(), boxes(4)), func(w *press.Works) { w.Yard.Vats = make([][]int, 5) }), bad, limit, nil, false},
		{"a yard that is not valid, and a beating without a truth", changed(noCourse(), func(w *press.Works) { w.Yard.Fields[0].Lo = 6 }), bad, arg, nil, false},
		{"a yard without a truth, and a beating that is not valid", changed(noBlues(), func(w *press.Works) { w.Beating.Sun.Lo = 2 }), bad, wrong, nil, false},
		{"a yard without a truth, and a beating that is too long", changed(noBlues(), func(w *press.Works) { w.Beating.Last = 10 }), plain(), wrong, nil, false},
		{"a yard without a truth, and boxes too many", changed(noBlues(), boxes(4)), bad, wrong, nil, false},
		{"a beating that is not valid, and boxes too many", changed(changed(two(), boxes(4)), func(w *press.Works) { w.Beating.Sun.Lo = 2 }), bad, arg, nil, false},
		{"a beating that is too long, and no endings", changed(ended(two()), func(w *press.Works) { w.Beating.Last = 10 }), bad, limit, nil, false},
		{"a beating without a truth, and boxes too many", changed(noCourse(), boxes(4)), bad, wrong, nil, false},
		{"a beating without a truth, and the most boxes", changed(noCourse(), boxes(3)), plain(), wrong, nil, false},
		{"boxes too many, and too many two truths", changed(changed(two(), wide), boxes(4)), bad, arg, nil, false},
		{"too many two truths", changed(two(), wide), bad, limit, nil, false},
		{"too many two truths, with arguments that are valid", changed(two(), wide), plain(), limit, nil, false},
		{"too many two truths, and the most boxes", changed(changed(two(), wide), boxes(3)), plain(), limit, nil, false},
		{"boxes too many, with arguments that are valid", changed(two(), boxes(4)), plain(), arg, nil, false},
		{"no boxes", changed(two(), boxes(0)), args{}, arg, nil, false},
		{"bad arguments", two(), bad, 0, errors{"Play": rng, "Late": rng}, false},
		{"a plan that is too short", two(), short, 0, errors{"Play": rng, "Late": rng}, false},
		{"no plan, and nothing late", changed(two(), func(w *press.Works) { w.Last = 99 }), args{}, 0, errors{"Play": rng, "Late": rng}, false},
		{"bad arguments, and the most boxes", changed(two(), boxes(3)), bad, 0, errors{"Play": rng, "Late": rng, "More": rng}, false},
		{"the most boxes", changed(two(), boxes(3)), plain(), 0, errors{"Late": none, "More": rng}, true},
		{"too late", two(), one, 0, nil, true},
		{"too late, and in less", two(), slow, 0, nil, false},
		{"one box", changed(two(), boxes(1)), one, 0, nil, true},
		{"one box, and another one in the plan", changed(two(), boxes(1)), plain(), 0, errors{"Play": rng, "Late": rng}, false},
		{"all is well", two(), plain(), 0, errors{"Late": none}, true},
		{"no vats", known(1, 1), args{}, 0, errors{"Late": none}, true},
		{"no vats, and a plan", known(1, 1), plain(), 0, errors{"Play": rng, "Late": rng}, false},
	} {
		for _, got := range ask(x.w, x.a) {
			want := x.want[got.call]
			if x.all != api.OK {
				want = x.all
			}
			if got.call == "ProvePlan" {
				if (got.text == "true") != x.is {
					t.Errorf("%s: %s is %s", x.name, got.call, got.text)
				}
				continue
			}
			if got.e != want {
				t.Errorf("%s: %s: %v, not %v", x.name, got.call, got.e, want)
			}
			if got.e != api.OK && !got.zero {
				t.Errorf("%s: %s: %s comes with an error", x.name, got.call, got.text)
			}
		}
	}
}

// TestOneBadArgument makes one argument wrong at a time, just beyond its limit and far beyond; at the limit it is right.
func TestOneBadArgument(t *testing.T) {
	for boxes := 1; boxes <= 3; boxes++ {
		w := withBoxes(two(), boxes)
		for v := range 2 {
			for _, n := range list(0, boxes-1, -1, boxes, 3, math.MinInt, math.MaxInt) {
				isBox := n == 0 || n == boxes-1
				plan := list(0, 0)
				plan[v] = n
				_, e := press.Play(w, plan)
				_, f := press.Late(w, plan)
				if (e != api.ErrRange) != isBox || (f != api.ErrRange) != isBox || press.ProvePlan(w, plan, 99) != isBox {
					t.Errorf("the vat %d in the box %d of %d: %v, %v", v, n, boxes, e, f)
				}
			}
		}
		for many := range 6 {
			_, e := press.Play(w, make([]int, many))
			_, f := press.Late(w, make([]int, many))
			if (e != api.ErrRange) != (many == 2) || (f != api.ErrRange) != (many == 2) || press.ProvePlan(w, make([]int, many), 99) != (many == 2) {
				t.Errorf("%d vats in %d boxes: %v, %v", many, boxes, e, f)
			}
		}
	}
}

// TestEmpty: nil is the same as a list without elements (R3), and sums of nothing are 0 (R9).
func TestEmpty(t *testing.T) {
	void := press.Works{Boxes: 1, Force: 1, Cake: 1}
	full := void
	full.Yard = vat.Yard{Fields: []vat.Range{}, Vats: [][]int{}, Samples: []vat.Sample{}}
	full.Beating.Vats, full.Beating.Samples, full.Endings = []beat.Vat{}, []beat.Sample{}, list()
	for i, got := range ask(full, args{plan: list()}) {
		if want := ask(void, args{})[i]; got != want || got.e != api.OK && got.call != "Late" {
			t.Errorf("%v, but with nil %v", got, want)
		}
	}
	for i, got := range ask(two(), args{plan: list()}) {
		if want := ask(two(), args{})[i]; got != want {
			t.Errorf("%v, but with nil %v", got, want)
		}
	}
	// Vats without fields have no blue.
	bare := changed(two(), func(w *press.Works) { w.Yard = vat.Yard{Vats: [][]int{nil, {}}} })
	if l, n, e := press.Best(bare); !slices.Equal(l, list(0, 0)) || n != 0 || e != api.OK {
		t.Errorf("without fields the best plan is %v, %d, %v", l, n, e)
	}
	if !press.ProvePlan(void, nil, 0) || press.ProvePlan(void, nil, -1) {
		t.Error("without vats the ending is 0")
	}
}

// TestMemory: arguments stay as they are, and results are in memory of their own (R4).
func TestMemory(t *testing.T) {
	for _, w := range append(worksList(), noBlues(), noCourse(), beaten()) {
		plans := allPlans(w)
		a := args{plan: roomy(plans[len(plans)-1], -3), ending: 9}
		w = roomyWorks(w)
		was := fmt.Sprint(toEnds(w, a))
		first := ask(w, a)
		scribble(w, a)
		if now := fmt.Sprint(toEnds(w, a)); now != was {
			t.Fatalf("arguments changed: %v, %v", was, now)
		}
		for i, again := range ask(w, a) { // the same call returns the same, whatever was done to the results
			if again != first[i] {
				t.Errorf("%v, and again %v", first[i], again)
			}
		}
	}
}

// roomy returns a copy of the list with room behind it, where marks show whether it is written to.
func roomy[T any](l []T, mark T) []T {
	out := append(make([]T, 0, len(l)+3), l...)
	rest := out[len(l):cap(out)]
	for i := range rest {
		rest[i] = mark
	}
	return out
}

func roomyWorks(w press.Works) press.Works {
	w.Yard.Fields, w.Yard.Samples = roomy(w.Yard.Fields, vat.Range{Lo: -3}), roomy(w.Yard.Samples, blueSample(-3, -3, -3))
	w.Yard.Vats = roomy(w.Yard.Vats, list(-3))
	for v, bundles := range w.Yard.Vats {
		w.Yard.Vats[v] = roomy(bundles, -3)
	}
	w.Beating.Vats, w.Beating.Samples = roomy(w.Beating.Vats, needs(-3, -3, -3, -3)), roomy(w.Beating.Samples, hourSample(-3, -3, true))
	w.Endings = roomy(w.Endings, -3)
	return w
}

// toEnds returns the arguments with their lists up to the ends of their memory.
func toEnds(w press.Works, a args) (press.Works, args) {
	w = changed(w, func(z *press.Works) {
		z.Yard.Fields, z.Yard.Vats, z.Yard.Samples = w.Yard.Fields[:cap(w.Yard.Fields)], slices.Clone(w.Yard.Vats[:cap(w.Yard.Vats)]), w.Yard.Samples[:cap(w.Yard.Samples)]
		z.Beating.Vats, z.Beating.Samples = w.Beating.Vats[:cap(w.Beating.Vats)], w.Beating.Samples[:cap(w.Beating.Samples)]
		z.Endings = w.Endings[:cap(w.Endings)]
	})
	for v, bundles := range w.Yard.Vats {
		w.Yard.Vats[v] = bundles[:cap(bundles)]
	}
	a.plan = a.plan[:cap(a.plan)]
	return w, a
}

// scribble writes over all results.
func scribble(w press.Works, a args) {
	for range 2 {
		best, _, _ := press.Best(w)
		wise, _ := press.Wise(w)
		for _, l := range [][]int{best, wise} {
			for i := range l[:cap(l)] {
				l[:cap(l)][i] = -7
			}
		}
		muds, _ := press.Muds(w)
		hours, _ := press.Hours(w)
		cakes, _ := press.Cakes(w)
		when, _ := press.Play(w, a.plan)
		for _, l := range [][]press.Range{muds, hours, cakes, when} {
			for i := range l[:cap(l)] {
				l[:cap(l)][i] = to(-7, -7)
			}
		}
	}
}

// TestResultsApart: results share no memory with those of an equal call (R4).
func TestResultsApart(t *testing.T) {
	w := known(2, 1, 3, 3)
	w.Cake = 2
	for range 2 {
		muds, _ := press.Muds(w)
		hours, _ := press.Hours(w)
		cakes, _ := press.Cakes(w)
		when, _ := press.Play(w, list(1, 1))
		best, _, _ := press.Best(w)
		wise, _ := press.Wise(two())
		if !slices.Equal(muds, ranges(3, 3, 3, 3)) || !slices.Equal(hours, ranges(2, 2, 2, 2)) || !slices.Equal(cakes, ranges(1, 1, 1, 1)) ||
			!slices.Equal(when, ranges(2, 2, 4, 4)) || !slices.Equal(best, list(0, 1)) || !slices.Equal(wise, list(4, 3)) {
			t.Errorf("Muds, Hours, Cakes, Play, Best, Wise: %v; %v; %v; %v; %v; %v", muds, hours, cakes, when, best, wise)
		}
		muds[0], hours[0], cakes[0], when[0], best[0], wise[0] = to(-7, -7), to(-7, -7), to(-7, -7), to(-7, -7), -7, -7
	}
}

// TestAnyArguments: each call returns, whatever its arguments are (P1), and the call that proves says no (R11).
func TestAnyArguments(t *testing.T) {
	odd := list(0, -1, 1, 2, 3, 4, 5, 6, 9, 10, 20, 50, 99, 100, math.MaxInt, math.MinInt, math.MaxInt-1)
	lists := [][]int{nil, {}, {0}, {1}, {-1, math.MaxInt}, {0, 1}, {1, 1}, {4, 3}, {0, 0, 0}, {2, 1, 0}, {math.MinInt, math.MinInt}, make([]int, 5), make([]int, 1000)}
	d := &dice{state: 9}
	pick := func() int { return odd[d.roll(0, len(odd)-1)] }
	some := func() []int { return lists[d.roll(0, len(lists)-1)] }
	for i := range 6000 {
		w := two()
		if i%4 > 0 {
			w.Boxes, w.Last = pick(), pick()
		}
		if i%4 > 1 {
			w.Force, w.Cake, w.Endings = pick(), pick(), some()
		}
		if i%5 == 0 {
			w.Yard.Fields[d.roll(0, 2)], w.Yard.Vats[d.roll(0, 1)] = vat.Range{Lo: pick(), Hi: pick()}, some()
		}
		if i%7 == 0 {
			w.Yard.Samples = append(w.Yard.Samples, blueSample(pick(), pick(), pick()))
			w.Beating.Samples = append(w.Beating.Samples, hourSample(pick(), pick(), d.roll(0, 1) == 0))
		}
		if i%11 == 0 {
			w.Beating.Sun, w.Beating.Last = span(pick(), pick()), pick()
			w.Beating.Vats = append(w.Beating.Vats, needs(pick(), pick(), pick(), pick()))
		}
		a := args{plan: some(), ending: pick()}
		e := press.CheckWorks(w)
		for _, got := range ask(w, a) {
			proves := got.call == "ProvePlan"
			if e != api.OK && (proves && got.text == "true" || !proves && (got.e != e || !got.zero)) {
				t.Errorf("%s of %v: %v, %v", got.call, w, got.text, got.e)
			}
		}
	}
}

// TestAnyOrder: samples lead to the same results in any order (P7).
func TestAnyOrder(t *testing.T) {
	d := &dice{state: 3}
	for _, w := range append(worksList(), largest()) {
		z := clone(w)
		mix(d, z.Yard.Samples)
		mix(d, z.Beating.Samples)
		for _, plan := range allPlans(w) {
			a := args{plan: plan, ending: d.roll(0, 20)}
			other := ask(z, a)
			for i, one := range ask(w, a) {
				if one != other[i] {
					t.Errorf("%v: %v, and with the samples in another order %v", w, one, other[i])
				}
			}
		}
	}
}

// mix brings the list into another order.
func mix[T any](d *dice, l []T) {
	for i := range l {
		j := d.roll(0, i)
		l[i], l[j] = l[j], l[i]
	}
}
