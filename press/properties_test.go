package press_test

import (
	"slices"
	"testing"

	"anil/api"
	"anil/press"
	"anil/vat"
)

// The promises P9.6 to P9.15, asked of packages press, vat and beat alone.

// answered fails the test if a call that must have a result has an error instead.
func answered(t *testing.T, what string, w press.Works, e api.Errno) {
	t.Helper()
	if e != api.OK {
		t.Fatalf("%s of %v: %v", what, w, e)
	}
}

func mudOf(t *testing.T, w press.Works) []press.Range {
	t.Helper()
	l, e := press.Muds(w)
	answered(t, "Muds", w, e)
	return l
}

func hoursOf(t *testing.T, w press.Works) []press.Range {
	t.Helper()
	l, e := press.Hours(w)
	answered(t, "Hours", w, e)
	return l
}

func cakesOf(t *testing.T, w press.Works) []press.Range {
	t.Helper()
	l, e := press.Cakes(w)
	answered(t, "Cakes", w, e)
	return l
}

func playOf(t *testing.T, w press.Works, plan []int) []press.Range {
	t.Helper()
	l, e := press.Play(w, plan)
	answered(t, "Play", w, e)
	return l
}

func bestOf(t *testing.T, w press.Works) ([]int, int) {
	t.Helper()
	l, n, e := press.Best(w)
	answered(t, "Best", w, e)
	return l, n
}

// most returns the greatest number that is in one of the ranges, and their sum; 0 if there are none.
func most(l []press.Range) (greatest, sum int) {
	for _, r := range l {
		greatest = max(greatest, r.Hi)
		sum += r.Hi
	}
	return greatest, sum
}

// endingOf returns the ending of the plan, as Play says it.
func endingOf(t *testing.T, w press.Works, plan []int) int {
	t.Helper()
	n, _ := most(playOf(t, w, plan))
	return n
}

// P9.6
func TestInEachTruth(t *testing.T) {
	for _, w := range worksList() {
		muds, hours, cakes := mudOf(t, w), hoursOf(t, w), cakesOf(t, w)
		reached := make([][6]bool, len(muds))
		for _, m := range allMuds(w) {
			for v, mud := range m {
				n, made := wantHours(w, mud), wantCakes(w, mud)
				if mud < muds[v].Lo || muds[v].Hi < mud || n < hours[v].Lo || hours[v].Hi < n || made < cakes[v].Lo || cakes[v].Hi < made {
					t.Errorf("%v: the vat %d has %d, which needs %d and makes %d, but bounds are %v, %v, %v", w, v, mud, n, made, muds[v], hours[v], cakes[v])
				}
				for i, is := range []bool{mud == muds[v].Lo, mud == muds[v].Hi, n == hours[v].Lo, n == hours[v].Hi, made == cakes[v].Lo, made == cakes[v].Hi} {
					reached[v][i] = reached[v][i] || is
				}
			}
		}
		for v, ends := range reached {
			if ends != [6]bool{true, true, true, true, true, true} {
				t.Errorf("%v: the vat %d does not reach all of %v, %v, %v", w, v, muds[v], hours[v], cakes[v])
			}
		}
	}
}

// P9.6
func TestPressedInItsHours(t *testing.T) {
	isPressed := func(w press.Works, mud, hours int) bool {
		return pressedIn(w.Force, hours) >= mud && (hours == 0 || pressedIn(w.Force, hours-1) < mud)
	}
	for _, w := range append(worksList(), largest(), beaten()) {
		muds := mudOf(t, w)
		for w.Force = range 10 {
			if w.Force == 0 {
				continue
			}
			for v, hours := range hoursOf(t, w) {
				if !isPressed(w, muds[v].Lo, hours.Lo) || !isPressed(w, muds[v].Hi, hours.Hi) {
					t.Errorf("%v: the vat %d has %v, which does not need %v", w, v, muds[v], hours)
				}
			}
		}
	}
}

// P9.6: all muds from 0 to 99, as single vats that are known.
func TestEachMud(t *testing.T) {
	for mud := range 100 {
		for force := 1; force <= 9; force++ {
			w := known(1, force, mud)
			n, c := wantHours(w, mud), mud
			if l := hoursOf(t, w); !slices.Equal(l, ranges(n, n)) {
				t.Errorf("%d with the Force %d needs %v, not %d", mud, force, l, n)
			}
			if l := cakesOf(t, w); !slices.Equal(l, ranges(c, c)) {
				t.Errorf("%d makes %v", mud, l)
			}
		}
		for cake := 1; cake <= 50; cake++ {
			w := known(1, 1, mud)
			w.Cake = cake
			n := cakesOf(t, w)[0].Lo
			if n*cake > mud || (n+1)*cake <= mud {
				t.Errorf("%d makes %d cakes of %d", mud, n, cake)
			}
		}
	}
}

// P9.7
func TestInABox(t *testing.T) {
	for _, w := range worksList() {
		hours := hoursOf(t, w)
		longest, sum := most(hours)
		for _, plan := range allPlans(w) {
			when := playOf(t, w, plan)
			for v := range plan {
				isAlone := true
				for u := range plan {
					if u == v || plan[u] != plan[v] {
						continue
					}
					isAlone = false
					if u < v && (when[u].Lo > when[v].Lo || when[u].Hi > when[v].Hi) {
						t.Errorf("%v, %v: the vat %d is pressed at %v, but %d at %v", w, plan, v, when[v], u, when[u])
					}
				}
				if isAlone && when[v] != hours[v] {
					t.Errorf("%v, %v: the vat %d is pressed at %v, but needs %v", w, plan, v, when[v], hours[v])
				}
			}
			if n, _ := most(when); n < longest || n > sum || !press.ProvePlan(w, plan, n) || press.ProvePlan(w, plan, n-1) {
				t.Errorf("%v, %v: the ending is %d, but the hours are %v", w, plan, n, hours)
			}
		}
	}
}

// P9.8
func TestNoBetterPlan(t *testing.T) {
	for _, w := range worksList() {
		best, ending := bestOf(t, w)
		if endingOf(t, w, best) != ending || !press.ProvePlan(w, best, ending) {
			t.Errorf("%v: the ending of %v is not %d", w, best, ending)
		}
		for _, plan := range allPlans(w) {
			n := endingOf(t, w, plan)
			if n < ending || n == ending && slices.Compare(plan, best) < 0 {
				t.Errorf("%v: %v with %d is better than %v with %d", w, plan, n, best, ending)
			}
			if press.ProvePlan(w, plan, ending-1) {
				t.Errorf("%v: %v is proved to end before %d", w, plan, ending)
			}
		}
	}
}

// P9.8
func TestExchangedBoxes(t *testing.T) {
	for _, w := range worksList() {
		for _, plan := range allPlans(w) {
			when := playOf(t, w, plan)
			for one := range w.Boxes {
				for other := range one {
					z := exchanged(plan, one, other)
					if l := playOf(t, w, z); !slices.Equal(l, when) {
						t.Errorf("%v: with %v the vats are pressed at %v, but with %v at %v", w, plan, when, z, l)
					}
				}
			}
		}
	}
}

// exchanged returns the plan in which the two boxes exchange their vats.
func exchanged(plan []int, one, other int) []int {
	plan = slices.Clone(plan)
	for v, box := range plan {
		switch box {
		case one:
			plan[v] = other
		case other:
			plan[v] = one
		}
	}
	return plan
}

// P9.9
func TestOneMoreBox(t *testing.T) {
	for _, w := range worksList() {
		vats := len(w.Endings)
		for _, boxes := range list(1, 2) {
			w.Boxes = boxes
			_, ending := bestOf(t, w)
			_, earlier := bestOf(t, withBoxes(w, boxes+1))
			n, e := press.More(w)
			if e != api.OK || n < 0 || n != ending-earlier || boxes >= vats && n != 0 {
				t.Errorf("%v: one more box is worth %d, %v, but the endings are %d and %d", w, n, e, ending, earlier)
			}
		}
		if longest, _ := most(hoursOf(t, w)); vats > 0 {
			if l, n := bestOf(t, withBoxes(w, vats)); n != longest {
				t.Errorf("%v: with as many boxes as vats %v ends at %d", w, l, n)
			}
		}
		w.Boxes = 1
		if l, n := bestOf(t, w); vats > 0 && (slices.Max(l) > 0 || n != playOf(t, w, l)[vats-1].Hi) {
			t.Errorf("%v: with one box %v ends at %d", w, l, n)
		}
	}
}

// noMore reports whether no number of the one list is greater at its end, in all ranges.
func noMore(one, other []press.Range) bool {
	for v, r := range one {
		if r.Lo > other[v].Lo || r.Hi > other[v].Hi {
			return false
		}
	}
	return len(one) == len(other)
}

// P9.10
func TestMoreForce(t *testing.T) {
	fewer := 0
	for _, w := range worksList() {
		_, ending := bestOf(t, w)
		for force := w.Force + 1; force <= api.MaxPressForce; force++ {
			z := w
			z.Force = force
			if !slices.Equal(mudOf(t, z), mudOf(t, w)) || !slices.Equal(cakesOf(t, z), cakesOf(t, w)) {
				t.Errorf("%v: with the Force %d there are other muds, or cakes", w, force)
			}
			hours := hoursOf(t, z)
			if !noMore(hours, hoursOf(t, w)) {
				t.Errorf("%v: with the Force %d the hours are %v", w, force, hours)
			}
			_, n := bestOf(t, z)
			if n > ending {
				t.Errorf("%v: with the Force %d the best plan ends at %d", w, force, n)
			}
			if n < ending {
				fewer++
			}
		}
		for cake := range w.Cake {
			z := w
			z.Cake = cake
			if cake > 0 && !noMore(cakesOf(t, w), cakesOf(t, z)) {
				t.Errorf("%v: with the Cake %d there are fewer cakes", w, cake)
			}
		}
	}
	if fewer < 100 {
		t.Errorf("a greater Force helps only %d times: the works say too little", fewer)
	}
}

// lateOf returns the first vat that may be too late, and as many as there are vats if there is none.
func lateOf(t *testing.T, w press.Works, plan []int) int {
	t.Helper()
	n, e := press.Late(w, plan)
	if e == api.ErrNone {
		return len(plan)
	}
	answered(t, "Late", w, e)
	return n
}

// P9.11
func TestLate(t *testing.T) {
	yes, no := 0, 0
	for _, w := range worksList() {
		best, ending := bestOf(t, w)
		for _, last := range list(ending-1, ending, w.Last, w.Last+1, 99, 0) {
			if last < 0 {
				continue
			}
			w.Last = last
			is := false // whether no vat may be too late with some plan
			for _, plan := range allPlans(w) {
				late := lateOf(t, w, plan)
				is = is || late == len(plan)
				for v, r := range playOf(t, w, plan)[:min(late+1, len(plan))] {
					if (r.Hi > last) != (v == late) {
						t.Errorf("%v, %v: %d is the first that may be too late, but %d is pressed at %v", w, plan, late, v, r)
					}
				}
				z := w
				z.Last = min(99, last+1)
				if lateOf(t, z, plan) < late {
					t.Errorf("%v, %v: %d may be too late, but with an hour more %d", w, plan, late, lateOf(t, z, plan))
				}
			}
			if is != (lateOf(t, w, best) == len(best)) {
				t.Errorf("%v: no vat is late with some plan: %v, but with the best one %d", w, is, lateOf(t, w, best))
			}
			if is {
				yes++
			} else {
				no++
			}
		}
	}
	if yes < 200 || no < 200 {
		t.Errorf("with %d works no vat is late, and with %d some one is: they say too little", yes, no)
	}
}

// P9.12
func TestNoWiser(t *testing.T) {
	for _, w := range worksList() {
		wise, e := press.Wise(w)
		answered(t, "Wise", w, e)
		sure := mudOf(t, ended(w, wise...))
		for _, endings := range allEndings(w) {
			for v, r := range mudOf(t, ended(w, endings...)) {
				if r.Lo > sure[v].Lo || r.Lo == sure[v].Lo && endings[v] < wise[v] {
					t.Errorf("%v: the vat %d surely has %d, but with %v %d", w, v, sure[v].Lo, endings, r.Lo)
				}
			}
		}
		if l, e := press.Wise(ended(w, make([]int, len(wise))...)); !slices.Equal(l, wise) || e != api.OK {
			t.Errorf("%v: %v are wise, but with other endings %v, %v", w, wise, l, e)
		}
	}
}

// allEndings returns endings in which each vat has each hour: all of them, if they are few.
func allEndings(w press.Works) (out [][]int) {
	vats := len(w.Endings)
	if all := allChoices(slices.Repeat([]press.Range{to(0, w.Beating.Last)}, vats)); len(all) <= 30 {
		return all
	}
	for hour := range w.Beating.Last + 1 {
		endings := []int{}
		for v := range vats {
			endings = append(endings, (hour+3*v)%(w.Beating.Last+1))
		}
		out = append(out, endings)
	}
	return out
}

// isWithin reports whether no range is wider than the other one at its place.
func isWithin(one, other []press.Range) bool {
	for v, r := range one {
		if r.Lo < other[v].Lo || r.Hi > other[v].Hi {
			return false
		}
	}
	return len(one) == len(other)
}

// P9.13
func TestKnownBetter(t *testing.T) {
	helped := 0
	for _, w := range worksList() {
		_, ending := bestOf(t, w)
		for _, z := range knownBetter(t, w) {
			if e := press.CheckWorks(z); e == api.ErrFalse {
				continue
			}
			muds, hours, cakes := mudOf(t, z), hoursOf(t, z), cakesOf(t, z)
			if !isWithin(muds, mudOf(t, w)) || !isWithin(hours, hoursOf(t, w)) || !isWithin(cakes, cakesOf(t, w)) {
				t.Errorf("%v: with one more sample, %v, bounds are %v, %v, %v", w, z, muds, hours, cakes)
			}
			_, n := bestOf(t, z)
			if n > ending {
				t.Errorf("%v: the best plan ends at %d, but with one more sample, %v, at %d", w, ending, z, n)
			}
			if n < ending {
				helped++
			}
		}
	}
	if helped < 50 {
		t.Errorf("one more sample helps only %d times: the works say too little", helped)
	}
}

// knownBetter returns the works with one more sample, some of which are false.
func knownBetter(t *testing.T, w press.Works) (out []press.Works) {
	t.Helper()
	blues, e := vat.Bounds(w.Yard)
	answered(t, "Bounds", w, e)
	for v, r := range blues {
		middle := (r.Lo + r.Hi) / 2
		out = append(out, withBlue(w, blueSample(v, r.Lo, middle)), withBlue(w, blueSample(v, middle, r.Hi)), withBlue(w, blueSample(v, r.Hi, r.Hi)))
		for hour := range w.Beating.Last + 1 {
			out = append(out, withHour(w, hourSample(v, hour, hour%2 == 0)))
		}
	}
	return out
}

// P9.14
func TestNothingIsLost(t *testing.T) {
	less := 0
	for _, w := range worksList() {
		idle := changed(w, func(w *press.Works) {
			for v := range w.Beating.Vats {
				w.Beating.Vats[v].Early, w.Beating.Vats[v].Late = 0, 0
			}
		})
		blues, e := vat.Bounds(w.Yard)
		answered(t, "Bounds", w, e)
		muds := mudOf(t, idle)
		for v, r := range blues {
			if muds[v] != press.Range(r) {
				t.Errorf("%v: nothing is lost of %v, but the muds are %v", w, blues, muds)
			}
		}
		muds = mudOf(t, w)
		for v := range muds {
			for _, z := range []press.Works{
				changed(w, func(w *press.Works) { w.Beating.Vats[v].Early++ }),
				changed(w, func(w *press.Works) { w.Beating.Vats[v].Late++ }),
			} {
				for u, r := range mudOf(t, z) {
					if r.Lo > muds[u].Lo || u != v && r != muds[u] {
						t.Errorf("%v: the muds are %v, but if %d loses more %d has %v", w, muds, v, u, r)
					}
					if r.Lo < muds[u].Lo {
						less++
					}
				}
			}
		}
	}
	if less < 50 {
		t.Errorf("a greater Early or Late takes mud only %d times: the works say too little", less)
	}
}

// P9.15
func TestOneMoreBundle(t *testing.T) {
	more := 0
	for _, w := range worksList() {
		w.Yard.Samples = nil
		muds := mudOf(t, w)
		for v, bundles := range w.Yard.Vats {
			for f, n := range bundles {
				if n == api.MaxVatBundles {
					continue
				}
				z := changed(w, func(w *press.Works) { w.Yard.Vats[v][f]++ })
				for u, r := range mudOf(t, z) {
					if r.Lo < muds[u].Lo || r.Hi < muds[u].Hi || u != v && r != muds[u] {
						t.Errorf("%v: the muds are %v, but with one more bundle in %d the vat %d has %v", w, muds, v, u, r)
					}
					if r.Hi > muds[u].Hi {
						more++
					}
				}
			}
		}
	}
	if more < 50 {
		t.Errorf("one more bundle makes mud only %d times: the works say too little", more)
	}
}
