package press_test

import (
	"math"
	"slices"
	"testing"

	"anil/api"
	"anil/beat"
	"anil/press"
	"anil/vat"
)

// The promises P9.1 to P9.5: the chapter's examples, the edges, and all works of the list against what the chapter defines.

// P9.1
func TestCheckWorks(t *testing.T) {
	vats := func(yard, beating, endings int) press.Works {
		return changed(two(), func(w *press.Works) {
			w.Yard.Vats = slices.Repeat([][]int{{1, 1, 1}}, yard)
			w.Beating.Vats = slices.Repeat([]beat.Vat{needs(3, 3, 1, 1)}, beating)
			w.Endings = make([]int, endings)
		})
	}
	yard := func(change func(y *vat.Yard)) press.Works {
		return changed(two(), func(w *press.Works) { change(&w.Yard) })
	}
	beating := func(change func(b *beat.Beating)) press.Works {
		return changed(two(), func(w *press.Works) { change(&w.Beating) })
	}
	for _, x := range []struct {
		name string
		want api.Errno
		w    press.Works
	}{
		{"the example", api.OK, two()},
		{"the example with samples", api.OK, sampled()},
		{"the largest works", api.OK, largest()},
		{"the largest beating", api.OK, beaten()},
		{"no vats", api.OK, known(1, 1)},
		{"no fields", api.OK, changed(two(), func(w *press.Works) { w.Yard = vat.Yard{Vats: make([][]int, 2)} })},
		{"the zero value", api.ErrArg, press.Works{}}, // it has no Boxes
		{"a vat", api.OK, vats(1, 1, 1)},
		{"three vats", api.OK, vats(3, 3, 3)},
		{"four vats", api.ErrLimit, vats(4, 4, 4)},
		{"four vats of a yard", api.ErrArg, vats(4, 3, 3)},
		{"five vats of a yard", api.ErrLimit, vats(5, 3, 3)},
		{"a vat too few in the yard", api.ErrArg, vats(1, 2, 2)},
		{"a vat too many in the yard", api.ErrArg, vats(3, 2, 2)},
		{"a vat too few in the beating", api.ErrArg, vats(2, 1, 2)},
		{"an ending too few", api.ErrArg, vats(2, 2, 1)},
		{"an ending too many", api.ErrArg, vats(2, 2, 3)},
		{"no endings", api.ErrArg, vats(2, 2, 0)},
		{"many endings", api.ErrArg, vats(2, 2, 999)},
		{"an ending, and no vats", api.ErrArg, vats(0, 0, 1)},
		{"no blues", api.ErrFalse, noBlues()},
		{"no course", api.ErrFalse, noCourse()},
		{"too many samples of the yard", api.ErrLimit, yard(func(y *vat.Yard) { y.Samples = make([]vat.Sample, 6) })},
		{"too many fields", api.ErrLimit, yard(func(y *vat.Yard) { y.Fields = make([]vat.Range, 6) })},
		{"too many blues", api.ErrLimit, yard(func(y *vat.Yard) { y.Fields = fields(0, 19, 0, 19, 0, 19) })},
		{"a field that is not valid", api.ErrArg, yard(func(y *vat.Yard) { y.Fields[0].Hi = 21 })},
		{"a vat of the yard that is not valid", api.ErrArg, yard(func(y *vat.Yard) { y.Vats[1] = list(1, 3) })},
		{"too many samples of the beating", api.ErrLimit, beating(func(b *beat.Beating) { b.Samples = make([]beat.Sample, 6) })},
		{"a Last of the beating that is too late", api.ErrLimit, beating(func(b *beat.Beating) { b.Last = 10 })},
		{"too many courses", api.ErrLimit, beating(func(b *beat.Beating) { b.Sun, b.Vats[0].Needs, b.Vats[1].Needs = span(0, 4), span(0, 9), span(0, 4) })},
		{"a Sun that is not valid", api.ErrArg, beating(func(b *beat.Beating) { b.Sun = span(1, 0) })},
		{"a Late that is not valid", api.ErrArg, beating(func(b *beat.Beating) { b.Vats[0].Late = -1 })},
	} {
		if e := press.CheckWorks(x.w); e != x.want {
			t.Errorf("%s: %v", x.name, e)
		}
	}
}

// P9.1: the error of the Yard is before that of the Beating, this one before that of the numbers, and this one before that of the sizes.
func TestCheckInOrder(t *testing.T) {
	yards := map[string]func(y *vat.Yard){
		"blue 1": func(y *vat.Yard) { y.Fields[0].Lo = -1 },
		"blue 3": func(y *vat.Yard) { y.Samples = make([]vat.Sample, 6) },
		"blue 11": func(y *vat.Yard) {
			y.Samples = []vat.Sample{blueSample(0, 0, 1)}
		},
	}
	beatings := map[string]func(b *beat.Beating){
		"blue 1": func(b *beat.Beating) { b.Vats[0].Early = 21 },
		"blue 3": func(b *beat.Beating) { b.Last = 10 },
		"blue 11": func(b *beat.Beating) {
			b.Samples = []beat.Sample{hourSample(0, 0, true)}
		},
	}
	wide := func(w *press.Works) {
		w.Yard.Fields, w.Beating.Sun, w.Beating.Vats[0].Needs = fields(0, 9, 0, 9, 0, 9), span(0, 4), span(0, 9)
	}
	bad := func(w *press.Works) { w.Boxes = 4 }
	for want, y := range yards {
		for other, b := range beatings {
			for _, change := range []func(w *press.Works){func(w *press.Works) {}, bad} {
				w := changed(two(), func(w *press.Works) { change(w); y(&w.Yard); b(&w.Beating) })
				if e := press.CheckWorks(w); e.Error() != want {
					t.Errorf("the yard has %s, the beating %s: %v", want, other, e)
				}
				w = changed(two(), func(w *press.Works) { change(w); b(&w.Beating) })
				if e := press.CheckWorks(w); e.Error() != other {
					t.Errorf("the beating has %s: %v", other, e)
				}
			}
		}
	}
	if e := press.CheckWorks(changed(two(), wide)); e != api.ErrLimit {
		t.Errorf("too many two truths: %v", e)
	}
	if e := press.CheckWorks(changed(two(), func(w *press.Works) { wide(w); bad(w) })); e != api.ErrArg {
		t.Errorf("too many two truths, and too many boxes: %v", e)
	}
	if e := press.CheckWorks(changed(two(), func(w *press.Works) { wide(w); w.Endings = nil })); e != api.ErrArg {
		t.Errorf("too many two truths, and no endings: %v", e)
	}
}

// P9.1: TestCheckSizes has works with many two truths, of all parts.
func TestCheckSizes(t *testing.T) {
	for _, x := range []struct {
		fields []vat.Range
		sun    beat.Range
		vats   []beat.Vat
		want   api.Errno
	}{
		{fields(0, 19, 0, 9, 0, 9), span(0, 2), nil, api.OK},                                                    // 2000, 3
		{fields(0, 19, 0, 9, 0, 9), span(1, 4), nil, api.ErrLimit},                                              // 2000, 4
		{fields(0, 5, 3, 7), span(0, 3), []beat.Vat{needs(0, 9, 0, 0), needs(3, 7, 0, 0)}, api.OK},              // 30, 200
		{fields(0, 5, 3, 8), span(0, 3), []beat.Vat{needs(0, 9, 0, 0), needs(3, 7, 0, 0)}, api.ErrLimit},        // 36, 200
		{fields(0, 12, 0, 10, 0, 6), span(1, 1), []beat.Vat{needs(4, 9, 0, 0)}, api.ErrLimit},                   // 1001, 6
		{fields(0, 19, 0, 14, 0, 19), span(1, 1), []beat.Vat{needs(4, 4, 0, 0)}, api.ErrLimit},                  // 6000, 1
		{fields(0, 19, 0, 19, 0, 4), span(1, 1), []beat.Vat{needs(4, 4, 0, 0)}, api.OK},                         // 2000, 1
		{fields(0, 19, 0, 19), span(1, 1), []beat.Vat{needs(4, 6, 0, 0), needs(4, 8, 0, 0)}, api.OK},            // 400, 15
		{fields(0, 19, 0, 19), span(1, 1), []beat.Vat{needs(4, 7, 0, 0), needs(4, 7, 0, 0)}, api.ErrLimit},      // 400, 16
		{fields(0, 20, 0, 20), span(0, 0), []beat.Vat{needs(0, 2, 0, 0), {}, needs(4, 8, 0, 0)}, api.ErrLimit},  // 441, 15
		{nil, span(0, 4), []beat.Vat{needs(0, 4, 0, 0), needs(0, 1, 0, 0), needs(0, 3, 0, 0)}, api.OK},          // 1, 200
		{fields(0, 0, 0, 1, 0, 2, 0, 3, 0, 4), span(0, 4), []beat.Vat{needs(0, 9, 0, 0)}, api.OK},               // 120, 50
		{fields(1, 1, 0, 1, 0, 2, 0, 3, 0, 4), span(0, 4), []beat.Vat{needs(0, 9, 0, 0), needs(0, 1, 0, 0)}, 3}, // 120, 100
	} {
		w := press.Works{Yard: vat.Yard{Fields: x.fields}, Beating: beat.Beating{Sun: x.sun, Vats: x.vats}, Boxes: 1, Force: 1, Cake: 1}
		for range x.vats {
			w.Yard.Vats = append(w.Yard.Vats, make([]int, len(x.fields)))
			w.Endings = append(w.Endings, 0)
		}
		if e := press.CheckWorks(w); e != x.want {
			t.Errorf("the sizes of %v, %v and %v: %v, not %v", x.fields, x.sun, x.vats, e, x.want)
		}
	}
	// Samples leave fewer truths, but the sizes are the same.
	w := changed(largest(), func(w *press.Works) { w.Beating.Sun.Lo = 3 })
	if e := press.CheckWorks(w); e != api.ErrLimit {
		t.Errorf("12000 two truths, with samples: %v", e)
	}
}

// P9.1: TestCheckNumbers changes one number of the works at a time, to both sides of its limits.
func TestCheckNumbers(t *testing.T) {
	for _, x := range []struct {
		name      string
		low, high int // what is valid
		set       func(w *press.Works, n int)
	}{
		{"Boxes", 1, 3, func(w *press.Works, n int) { w.Boxes = n }},
		{"Force", 1, 9, func(w *press.Works, n int) { w.Force = n }},
		{"Last", 0, 99, func(w *press.Works, n int) { w.Last = n }},
		{"Cake", 1, 50, func(w *press.Works, n int) { w.Cake = n }},
		{"the first ending", 0, 6, func(w *press.Works, n int) { w.Endings[0] = n }},
		{"the last ending", 0, 6, func(w *press.Works, n int) { w.Endings[1] = n }},
		{"the last ending of a longer beating", 0, 9, func(w *press.Works, n int) { w.Beating.Last, w.Endings[1] = 9, n }},
	} {
		for _, n := range list(x.low, x.high, x.low-1, x.high+1, 0, 1, 4, 10, 50, 51, 100, math.MinInt, math.MaxInt, -7, 77777) {
			w := two()
			x.set(&w, n)
			want := api.ErrArg
			if x.low <= n && n <= x.high {
				want = api.OK
			}
			if e := press.CheckWorks(w); e != want {
				t.Errorf("%s %d: %v", x.name, n, e)
			}
		}
	}
}

// P9.1, P9.2
func TestExamplesOfMuds(t *testing.T) {
	forced := func(n int) press.Works { return changed(two(), func(w *press.Works) { w.Force = n }) }
	baked := func(n int) press.Works { return changed(two(), func(w *press.Works) { w.Cake = n }) }
	for _, x := range []struct {
		name               string
		w                  press.Works
		muds, hours, cakes []press.Range
	}{
		{"the example", two(), ranges(8, 22, 8, 14), ranges(3, 5, 3, 4), ranges(1, 4, 1, 2)},
		{"with Force 1", forced(1), ranges(8, 22, 8, 14), ranges(4, 7, 4, 5), ranges(1, 4, 1, 2)},
		{"with Force 9", forced(9), ranges(8, 22, 8, 14), ranges(1, 2, 1, 2), ranges(1, 4, 1, 2)},
		{"with the Endings 0, 0", ended(two(), 0, 0), ranges(0, 16, 5, 11), ranges(0, 4, 2, 3), ranges(0, 3, 1, 2)},
		{"with the Endings 6, 6", ended(two(), 6, 6), ranges(4, 20, 0, 4), ranges(2, 4, 0, 2), ranges(0, 4, 0, 0)},
		{"with samples", sampled(), ranges(15, 18, 9, 13), ranges(4, 4, 3, 4), ranges(3, 3, 1, 2)},
		{"with Cake 1", baked(1), ranges(8, 22, 8, 14), ranges(3, 5, 3, 4), ranges(8, 22, 8, 14)},
		{"with Cake 22", baked(22), ranges(8, 22, 8, 14), ranges(3, 5, 3, 4), ranges(0, 1, 0, 0)},
		{"with Cake 23", baked(23), ranges(8, 22, 8, 14), ranges(3, 5, 3, 4), ranges(0, 0, 0, 0)},
		{"with Cake 8", baked(8), ranges(8, 22, 8, 14), ranges(3, 5, 3, 4), ranges(1, 2, 1, 1)},
		{"known, just enough for an hour", known(1, 1, 1, 3, 6), ranges(1, 1, 3, 3, 6, 6), ranges(1, 1, 2, 2, 3, 3), ranges(1, 1, 3, 3, 6, 6)},
		{"known, a little more", known(1, 1, 2, 4, 7), ranges(2, 2, 4, 4, 7, 7), ranges(2, 2, 3, 3, 4, 4), ranges(2, 2, 4, 4, 7, 7)},
		{"known, with Force 9", known(1, 9, 0, 9, 10), ranges(0, 0, 9, 9, 10, 10), ranges(0, 0, 1, 1, 2, 2), ranges(0, 0, 9, 9, 10, 10)},
		{"known, with Force 3", known(1, 3, 99, 63, 64), ranges(99, 99, 63, 63, 64, 64), ranges(8, 8, 6, 6, 7, 7), ranges(99, 99, 63, 63, 64, 64)},
		{"one or the other", seesaw(1), ranges(1, 10, 1, 10), ranges(1, 4, 1, 4), ranges(1, 10, 1, 10)},
		{"no fields", changed(two(), func(w *press.Works) { w.Yard = vat.Yard{Vats: make([][]int, 2)} }), ranges(0, 0, 0, 0), ranges(0, 0, 0, 0), ranges(0, 0, 0, 0)},
		{"no vats", known(1, 1), nil, nil, nil},
	} {
		if l, e := press.Muds(x.w); !slices.Equal(l, x.muds) || e != api.OK {
			t.Errorf("%s: Muds is %v, %v", x.name, l, e)
		}
		if l, e := press.Hours(x.w); !slices.Equal(l, x.hours) || e != api.OK {
			t.Errorf("%s: Hours is %v, %v", x.name, l, e)
		}
		if l, e := press.Cakes(x.w); !slices.Equal(l, x.cakes) || e != api.OK {
			t.Errorf("%s: Cakes is %v, %v", x.name, l, e)
		}
	}
}

// P9.2: Example 9 of DOC.md.
func TestExampleOfDocument(t *testing.T) {
	w := known(1, 2, 8)
	w.Yard.Fields, w.Yard.Vats = fields(8, 8, 0, 2), [][]int{{1, 7}}
	if l, e := press.Muds(w); !slices.Equal(l, ranges(8, 22)) || e != api.OK {
		t.Errorf("Muds is %v, %v", l, e)
	}
	if l, e := press.Hours(w); !slices.Equal(l, ranges(3, 5)) || e != api.OK {
		t.Errorf("Hours is %v, %v", l, e)
	}
}

// P9.1, P9.2
func TestMudsHoursAndCakes(t *testing.T) {
	none, wide := 0, 0
	for _, w := range append(worksList(), largest(), beaten()) {
		muds := allMuds(w)
		want := ends(muds)
		if l, e := press.Muds(w); !slices.Equal(l, want) || e != api.OK {
			t.Errorf("Muds of %v: %v, %v, not %v", w, l, e, want)
		}
		for _, r := range want {
			if r.Lo == 0 {
				none++
			}
			if r.Lo < r.Hi {
				wide++
			}
		}
		want = ends(each(muds, func(n int) int { return wantHours(w, n) }))
		if l, e := press.Hours(w); !slices.Equal(l, want) || e != api.OK {
			t.Errorf("Hours of %v: %v, %v, not %v", w, l, e, want)
		}
		want = ends(each(muds, func(n int) int { return wantCakes(w, n) }))
		if l, e := press.Cakes(w); !slices.Equal(l, want) || e != api.OK {
			t.Errorf("Cakes of %v: %v, %v, not %v", w, l, e, want)
		}
	}
	if none < 40 || wide < 40 {
		t.Errorf("%d vats have perhaps no mud, and of %d it is not known: the works say too little", none, wide)
	}
}

// P9.3
func TestExamplesOfPlay(t *testing.T) {
	until := func(last int, w press.Works) press.Works {
		w.Last = last
		return w
	}
	for _, x := range []struct {
		name string
		w    press.Works
		plan []int
		want []press.Range
		e    api.Errno
		late int
		f    api.Errno
	}{
		{"0, 1", two(), list(0, 1), ranges(3, 5, 3, 4), api.OK, 0, api.ErrNone},
		{"1, 0", two(), list(1, 0), ranges(3, 5, 3, 4), api.OK, 0, api.ErrNone},
		{"0, 0", two(), list(0, 0), ranges(3, 5, 6, 9), api.OK, 1, api.OK},
		{"1, 1", two(), list(1, 1), ranges(3, 5, 6, 9), api.OK, 1, api.OK},
		{"in three boxes", withBoxes(two(), 3), list(2, 2), ranges(3, 5, 6, 9), api.OK, 1, api.OK},
		{"just by Last", until(9, two()), list(0, 0), ranges(3, 5, 6, 9), api.OK, 0, api.ErrNone},
		{"both too late", until(4, two()), list(0, 0), ranges(3, 5, 6, 9), api.OK, 0, api.OK},
		{"too late in a box of its own", until(4, two()), list(0, 1), ranges(3, 5, 3, 4), api.OK, 0, api.OK},
		{"surely too late", until(2, two()), list(0, 1), ranges(3, 5, 3, 4), api.OK, 0, api.OK},
		{"Last 0", until(0, two()), list(0, 1), ranges(3, 5, 3, 4), api.OK, 0, api.OK},
		{"no mud, Last 0", known(1, 1, 0, 0, 0), list(0, 0, 0), ranges(0, 0, 0, 0, 0, 0), api.OK, 0, api.ErrNone},
		{"no mud, and then some", known(1, 1, 0, 1, 0), list(0, 0, 0), ranges(0, 0, 1, 1, 1, 1), api.OK, 1, api.OK},
		{"one after the other", until(5, known(2, 1, 6, 3, 10)), list(0, 0, 0), ranges(3, 3, 5, 5, 9, 9), api.OK, 2, api.OK},
		{"the second one alone", until(5, known(2, 1, 6, 3, 10)), list(0, 1, 0), ranges(3, 3, 2, 2, 7, 7), api.OK, 2, api.OK},
		{"the first one alone", until(5, known(2, 1, 6, 3, 10)), list(1, 0, 0), ranges(3, 3, 2, 2, 6, 6), api.OK, 2, api.OK},
		{"the last one alone", until(4, known(2, 1, 6, 3, 10)), list(1, 1, 0), ranges(3, 3, 5, 5, 4, 4), api.OK, 1, api.OK},
		{"each alone", until(4, known(3, 1, 6, 3, 10)), list(2, 0, 1), ranges(3, 3, 2, 2, 4, 4), api.OK, 0, api.ErrNone},
		{"much mud, or little, but not twice", until(4, seesaw(1)), list(0, 0), ranges(1, 4, 5, 5), api.OK, 1, api.OK},
		{"much mud, or little, in boxes", until(4, seesaw(2)), list(1, 0), ranges(1, 4, 1, 4), api.OK, 0, api.ErrNone},
		{"with samples", sampled(), list(0, 0), ranges(4, 4, 7, 8), api.OK, 0, api.ErrNone},
		{"no vats", known(1, 1), nil, nil, api.OK, 0, api.ErrNone},
		{"a box too many", two(), list(0, 2), nil, api.ErrRange, 0, api.ErrRange},
		{"a box below 0", two(), list(-1, 0), nil, api.ErrRange, 0, api.ErrRange},
		{"a vat too few", two(), list(0), nil, api.ErrRange, 0, api.ErrRange},
		{"a vat too many", two(), list(0, 1, 0), nil, api.ErrRange, 0, api.ErrRange},
		{"no plan", two(), nil, nil, api.ErrRange, 0, api.ErrRange},
		{"a plan, and no vats", known(1, 1), list(0), nil, api.ErrRange, 0, api.ErrRange},
		{"one box", withBoxes(two(), 1), list(0, 1), nil, api.ErrRange, 0, api.ErrRange},
		{"no blues, and no plan", noBlues(), nil, nil, api.ErrFalse, 0, api.ErrFalse},
		{"no course", noCourse(), list(0, 1), nil, api.ErrFalse, 0, api.ErrFalse},
		{"not valid", withBoxes(two(), 0), list(0, 0), nil, api.ErrArg, 0, api.ErrArg},
	} {
		if l, e := press.Play(x.w, x.plan); !slices.Equal(l, x.want) || e != x.e {
			t.Errorf("%s: Play is %v, %v", x.name, l, e)
		}
		if n, e := press.Late(x.w, x.plan); n != x.late || e != x.f {
			t.Errorf("%s: Late is %d, %v", x.name, n, e)
		}
	}
}

// P9.3, P9.4
func TestPlayLateAndProvePlan(t *testing.T) {
	late, none, narrow := 0, 0, 0
	for _, w := range append(worksList(), largest(), beaten()) {
		muds, hours := allMuds(w), ends(each(allMuds(w), func(n int) int { return wantHours(w, n) }))
		for _, plan := range allPlans(w) {
			want := wantPlay(w, muds, plan)
			if l, e := press.Play(w, plan); !slices.Equal(l, want) || e != api.OK {
				t.Errorf("Play of %v, %v: %v, %v, not %v", w, plan, l, e, want)
			}
			v, isLate := wantLate(w, muds, plan)
			n, e := press.Late(w, plan)
			if n != v || isLate != (e == api.OK) || !isLate && e != api.ErrNone {
				t.Errorf("Late of %v, %v: %d, %v, not %d", w, plan, n, e, v)
			}
			if isLate {
				late++
			} else {
				none++
			}
			if isNarrow(hours, want, plan) {
				narrow++
			}
			ending := wantEnding(w, muds, plan)
			for _, n := range list(ending, ending+1, ending-1, 0, -1, math.MinInt, math.MaxInt) {
				if press.ProvePlan(w, plan, n) != (n >= ending) {
					t.Errorf("ProvePlan of %v, %v, %d: the ending is %d", w, plan, n, ending)
				}
			}
		}
	}
	if late < 200 || none < 200 || narrow < 50 {
		t.Errorf("with %d plans a vat may be too late, with %d none, and with %d the most hours do not come together: the works say too little", late, none, narrow)
	}
}

// isNarrow reports whether some vat is surely pressed before the most hours of all vats in its box up to it.
func isNarrow(hours, pressed []press.Range, plan []int) bool {
	for v := range plan {
		sum := 0
		for u := 0; u <= v; u++ {
			if plan[u] == plan[v] {
				sum += hours[u].Hi
			}
		}
		if pressed[v].Hi < sum {
			return true
		}
	}
	return false
}

// P9.4
func TestExamplesOfBest(t *testing.T) {
	for _, x := range []struct {
		name   string
		w      press.Works
		want   []int
		ending int
		e      api.Errno
		more   int
		f      api.Errno
	}{
		{"the example", two(), list(0, 1), 5, api.OK, 0, api.OK},
		{"with Boxes 1", withBoxes(two(), 1), list(0, 0), 9, api.OK, 4, api.OK},
		{"with Boxes 3", withBoxes(two(), 3), list(0, 1), 5, api.OK, 0, api.ErrRange},
		{"with samples", sampled(), list(0, 1), 4, api.OK, 0, api.OK},
		{"with samples and Boxes 1", withBoxes(sampled(), 1), list(0, 0), 8, api.OK, 4, api.OK},
		{"one or the other", seesaw(1), list(0, 0), 5, api.OK, 1, api.OK},
		{"one or the other, in boxes", seesaw(2), list(0, 1), 4, api.OK, 0, api.OK},
		{"no mud", known(1, 1, 0, 0, 0), list(0, 0, 0), 0, api.OK, 0, api.OK},
		{"no mud, in boxes", known(2, 1, 0, 0, 0), list(0, 0, 0), 0, api.OK, 0, api.OK},
		{"no mud but of one", known(3, 1, 0, 10, 0), list(0, 0, 0), 4, api.OK, 0, api.ErrRange},
		{"one vat", known(1, 9, 9), list(0), 1, api.OK, 0, api.OK},
		{"three in a box", known(1, 1, 6, 3, 10), list(0, 0, 0), 9, api.OK, 4, api.OK},
		{"three in two boxes", known(2, 1, 6, 3, 10), list(0, 0, 1), 5, api.OK, 1, api.OK},
		{"three in three boxes", known(3, 1, 6, 3, 10), list(0, 1, 2), 4, api.OK, 0, api.ErrRange},
		{"the first one alone", known(2, 1, 10, 3, 6), list(0, 1, 1), 5, api.OK, 1, api.OK},
		{"the second one alone", known(2, 1, 3, 10, 6), list(0, 1, 0), 5, api.OK, 1, api.OK},
		{"the last two together in three boxes", known(3, 1, 15, 3, 6), list(0, 1, 1), 5, api.OK, 0, api.ErrRange},
		{"two together in three boxes", known(3, 1, 3, 6, 15), list(0, 0, 1), 5, api.OK, 0, api.ErrRange},
		{"alike", known(2, 1, 1, 1, 1), list(0, 0, 1), 2, api.OK, 1, api.OK},
		{"no vats", known(1, 1), nil, 0, api.OK, 0, api.OK},
		{"no vats, with Boxes 3", known(3, 1), nil, 0, api.OK, 0, api.ErrRange},
		{"no blues", noBlues(), nil, 0, api.ErrFalse, 0, api.ErrFalse},
		{"no course, with Boxes 3", withBoxes(noCourse(), 3), nil, 0, api.ErrFalse, 0, api.ErrFalse},
		{"Boxes 4", withBoxes(two(), 4), nil, 0, api.ErrArg, 0, api.ErrArg},
		{"Boxes 0", withBoxes(two(), 0), nil, 0, api.ErrArg, 0, api.ErrArg},
		{"Boxes 3, and too many two truths", changed(withBoxes(beaten(), 3), func(w *press.Works) { w.Yard.Fields[0].Lo-- }), nil, 0, api.ErrLimit, 0, api.ErrLimit},
	} {
		l, n, e := press.Best(x.w)
		if !slices.Equal(l, x.want) || n != x.ending || e != x.e {
			t.Errorf("%s: Best is %v, %d, %v", x.name, l, n, e)
		}
		if press.ProvePlan(x.w, l, n) != (e == api.OK) || press.ProvePlan(x.w, l, n-1) {
			t.Errorf("%s: ProvePlan", x.name)
		}
		if n, e := press.More(x.w); n != x.more || e != x.f {
			t.Errorf("%s: More is %d, %v", x.name, n, e)
		}
	}
}

// P9.4
func TestExamplesOfProvePlan(t *testing.T) {
	for _, x := range []struct {
		name   string
		w      press.Works
		plan   []int
		ending int
		want   bool
	}{
		{"0, 1", two(), list(0, 1), 5, true},
		{"1, 0", two(), list(1, 0), 5, true},
		{"0, 1 in less", two(), list(0, 1), 4, false},
		{"0, 0", two(), list(0, 0), 9, true},
		{"0, 0 in less", two(), list(0, 0), 8, false},
		{"after Last", changed(two(), func(w *press.Works) { w.Last = 0 }), list(0, 0), 9, true},
		{"0, 0 in any time", two(), list(0, 0), math.MaxInt, true},
		{"0, 0 in no time", two(), list(0, 0), math.MinInt, false},
		{"a box too many", two(), list(0, 2), 99, false},
		{"a box below 0", two(), list(0, -1), 99, false},
		{"a box far below 0", two(), list(math.MinInt, 0), 99, false},
		{"a vat too few", two(), list(0), 99, false},
		{"a vat too many", two(), list(0, 1, 0), 99, false},
		{"no vats", known(1, 1), nil, 0, true},
		{"no vats, in less than no time", known(1, 1), nil, -1, false},
		{"a plan, and no vats", known(1, 1), list(0), 0, false},
		{"one or the other", seesaw(1), list(0, 0), 5, true},
		{"one or the other, in less", seesaw(1), list(0, 0), 4, false},
		{"no blues", noBlues(), list(0, 1), 99, false},
		{"no course", noCourse(), list(0, 1), 99, false},
		{"Boxes 4", withBoxes(two(), 4), list(0, 1), 99, false},
		{"too many two truths", changed(beaten(), func(w *press.Works) { w.Yard.Fields[0].Lo-- }), list(0, 1, 0), 99, false},
	} {
		if press.ProvePlan(x.w, x.plan, x.ending) != x.want {
			t.Errorf("%s: ProvePlan is not %v", x.name, x.want)
		}
	}
}

// P9.4
func TestBestAndMore(t *testing.T) {
	worth, together := 0, 0
	for _, w := range append(worksList(), largest(), beaten()) {
		muds := allMuds(w)
		for _, boxes := range list(1, 2, 3) {
			w.Boxes = boxes
			want, ending := wantBest(w, muds)
			if l, n, e := press.Best(w); !slices.Equal(l, want) || n != ending || e != api.OK {
				t.Errorf("Best of %v: %v, %d, %v, not %v, %d", w, l, n, e, want, ending)
			}
			if boxes > 1 && !slices.Contains(want, boxes-1) {
				together++
			}
			n, e := press.More(w)
			if boxes == 3 {
				if n != 0 || e != api.ErrRange {
					t.Errorf("More of %v: %d, %v", w, n, e)
				}
				continue
			}
			_, earlier := wantBest(withBoxes(w, boxes+1), muds)
			if n != ending-earlier || e != api.OK {
				t.Errorf("More of %v: %d, %v, not %d", w, n, e, ending-earlier)
			}
			if n > 0 {
				worth++
			}
		}
	}
	if worth < 50 || together < 20 {
		t.Errorf("one more box is worth something to %d, and %d use fewer than there are: the works say too little", worth, together)
	}
}

// P9.5
func TestExamplesOfWise(t *testing.T) {
	losing := func(early, late int) press.Works {
		return changed(two(), func(w *press.Works) {
			w.Beating.Vats[0].Early, w.Beating.Vats[0].Late = early, late
			w.Beating.Vats[1].Early, w.Beating.Vats[1].Late = early, late
		})
	}
	until := func(last int) press.Works {
		return changed(ended(two(), 0, 0), func(w *press.Works) { w.Beating.Last = last })
	}
	for _, x := range []struct {
		name string
		w    press.Works
		want []int
		e    api.Errno
	}{
		{"the example", two(), list(4, 3), api.OK},
		{"with other endings", ended(two(), 0, 6), list(4, 3), api.OK},
		{"with samples", sampled(), list(5, 3), api.OK},
		{"nothing is lost", losing(0, 0), list(0, 0), api.OK},
		{"nothing is lost early", losing(0, 1), list(0, 0), api.OK},
		{"nothing is lost late", losing(1, 0), list(5, 4), api.OK},
		{"as much early as late", losing(1, 1), list(3, 3), api.OK}, // 2..5: 3 and 4 are as good
		{"all is lost early", losing(20, 0), list(5, 4), api.OK},
		{"all is lost, early or late", losing(20, 20), list(0, 0), api.OK}, // 9 of the vat 1, and 12 of the vat 0 are too little
		{"known", changed(losing(20, 20), func(w *press.Works) { w.Beating.Sun, w.Beating.Vats[0].Needs = span(1, 1), span(4, 4) }), list(5, 4), api.OK},
		{"until 3", until(3), list(3, 3), api.OK},
		{"until 0", until(0), list(0, 0), api.OK},
		{"one or the other", seesaw(1), list(0, 4), api.OK},
		{"one or the other, for longer", changed(seesaw(1), func(w *press.Works) { w.Beating.Last = 9 }), list(0, 5), api.OK},
		{"no mud", known(2, 1, 0, 0, 0), list(0, 0, 0), api.OK},
		{"no vats", known(1, 1), nil, api.OK},
		{"no blues", noBlues(), nil, api.ErrFalse},
		{"no course", noCourse(), nil, api.ErrFalse},
		{"Boxes 4", withBoxes(two(), 4), nil, api.ErrArg},
	} {
		if l, e := press.Wise(x.w); !slices.Equal(l, x.want) || e != x.e {
			t.Errorf("%s: %v, %v", x.name, l, e)
		}
	}
}

// P9.5
func TestWise(t *testing.T) {
	late, never := 0, 0
	for _, w := range append(worksList(), largest(), beaten()) {
		want := list()
		for _, sure := range sureMuds(w) {
			hour := slices.Index(sure, slices.Max(sure))
			want = append(want, hour)
			switch {
			case hour > 0:
				late++
			case sure[0] == 0:
				never++
			}
		}
		if l, e := press.Wise(w); !slices.Equal(l, want) || e != api.OK {
			t.Errorf("Wise of %v: %v, %v, not %v", w, l, e, want)
		}
	}
	if late < 40 || never < 20 {
		t.Errorf("%d vats are wisely ended after the hour 0, and %d have no sure mud: the works say too little", late, never)
	}
}
