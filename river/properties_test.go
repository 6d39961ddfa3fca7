package river_test

import (
	"slices"
	"testing"

	"anil/api"
	"anil/river"
)

// The promises P8.7 to P8.17, asked of package river alone.

// answered fails the test if a call that must have a result has an error instead.
func answered(t *testing.T, what string, r river.River, e api.Errno) {
	t.Helper()
	if e != api.OK {
		t.Fatalf("%s of %v: %v", what, r, e)
	}
}

func playOf(t *testing.T, r river.River, plan []int, x river.Truth) []int {
	t.Helper()
	left, e := river.Play(r, plan, x)
	answered(t, "Play", r, e)
	return left
}

func goodOf(t *testing.T, r river.River, day int) int {
	t.Helper()
	n, e := river.Good(r, day)
	answered(t, "Good", r, e)
	return n
}

func tankOf(t *testing.T, r river.River, plan []int) []river.Range {
	t.Helper()
	left, e := river.Tank(r, plan)
	answered(t, "Tank", r, e)
	return left
}

func lastsOf(t *testing.T, r river.River, plan []int) int {
	t.Helper()
	n, e := river.Lasts(r, plan)
	answered(t, "Lasts", r, e)
	return n
}

// dryOf returns the first day on which water is lacking; the day after Last if there is none.
func dryOf(t *testing.T, r river.River, plan []int) int {
	t.Helper()
	n, e := river.Dry(r, plan)
	if e == api.ErrNone {
		return r.Last + 1
	}
	answered(t, "Dry", r, e)
	return n
}

// fewestOf returns the fewest days; false if there are none.
func fewestOf(t *testing.T, r river.River) ([]int, bool) {
	t.Helper()
	plan, e := river.Fewest(r)
	if e == api.ErrShort {
		return nil, false
	}
	answered(t, "Fewest", r, e)
	return plan, true
}

func leaveOf(t *testing.T, r river.River) []int {
	t.Helper()
	set, e := river.Leave(r)
	answered(t, "Leave", r, e)
	return set
}

// isSure reports whether the plan is sure, as ProvePlan says it.
func isSure(r river.River, plan []int) bool { return river.ProvePlan(r, plan, len(plan)) }

// proved returns all truths of the river, as ProveTruth finds them.
func proved(r river.River) (out []river.Truth) {
	for _, x := range allTruths(r) {
		if river.ProveTruth(r, x) {
			out = append(out, x)
		}
	}
	return out
}

// hasTruth reports whether the river has a truth, as Fewest says it.
func hasTruth(r river.River) bool {
	_, e := river.Fewest(r)
	return e == api.OK || e == api.ErrShort
}

// trueRivers returns the rivers of the list that have a truth.
func trueRivers() (out []river.River) {
	for _, r := range append(rivers(), four(), used(3, 3, 0, 0), four(salt(1, 4, 4))) {
		if len(truthsOf(r)) > 0 {
			out = append(out, r)
		}
	}
	return out
}

// plansOf returns all plans; of many of them only some, among them that of no days and that of all.
func plansOf(r river.River) (out [][]int) {
	for i, plan := range allPlans(r) {
		if r.Last < 3 || i%7 == 0 {
			out = append(out, plan)
		}
	}
	return out
}

func isWithin(inner, outer river.Range) bool { return outer.Lo <= inner.Lo && inner.Hi <= outer.Hi }

// noneLess reports whether no number of the other list is less than that of the list one.
func noneLess(one, other []int) bool {
	for i := range one {
		if other[i] < one[i] {
			return false
		}
	}
	return true
}

// P8.7
func TestInEachTruth(t *testing.T) {
	sure, good := 0, 0
	for _, r := range trueRivers() {
		truths := proved(r)
		if len(truths) == 0 {
			t.Fatalf("%v has a truth, but none is proved", r)
		}
		for _, plan := range plansOf(r) {
			bounds := tankOf(t, r, plan)
			low, high := make([]bool, r.Last+1), make([]bool, r.Last+1)
			for _, x := range truths {
				for day, n := range playOf(t, r, plan, x) {
					if n < bounds[day].Lo || n > bounds[day].Hi {
						t.Errorf("%v, %v: after %d %d is in the tank, which is not within %v", r, plan, day, n, bounds[day])
					}
					low[day], high[day] = low[day] || n == bounds[day].Lo, high[day] || n == bounds[day].Hi
				}
			}
			if slices.Contains(low, false) || slices.Contains(high, false) {
				t.Errorf("%v, %v: an end of %v is not reached: %v, %v", r, plan, bounds, low, high)
			}
			if isSure(r, plan) {
				sure++
				neverLacks(t, r, plan, truths)
			}
		}
		for day := range r.Last + 1 {
			v := goodOf(t, r, day)
			some := 0
			for _, x := range truths {
				if isGoodIn(r, x, day) {
					some++
				}
			}
			if v == always && some < len(truths) || v == never && some > 0 || v == perhaps && (some == 0 || some == len(truths)) {
				t.Errorf("%v: the day %d is good in %d truths of %d, but the verdict is %d", r, day, some, len(truths), v)
			}
			if v != perhaps {
				good++
			}
		}
		if set := leaveOf(t, r); len(set) > 0 {
			t.Errorf("%v: %v need not be left out", r, set)
		}
	}
	if sure < 200 || good < 200 {
		t.Errorf("only %d plans are sure, and %d days surely good or not: the rivers say too little", sure, good)
	}
}

// neverLacks checks that with the plan, which is sure, there is enough on each day in each truth.
func neverLacks(t *testing.T, r river.River, plan []int, truths []river.Truth) {
	t.Helper()
	if lastsOf(t, r, plan) != always || dryOf(t, r, plan) <= r.Last {
		t.Errorf("%v is sure of %v, but Lasts or Dry say something else", plan, r)
	}
	for _, x := range truths {
		left := playOf(t, r, plan, x)
		for day := range left {
			if isLacking(r, plan, x, left, day) {
				t.Errorf("%v is sure of %v, but in %v water is lacking on the day %d", plan, r, x, day)
			}
		}
	}
}

// before returns what was in the tank after the day before, of what is left after each day.
func before(r river.River, left []int, day int) int {
	if day == 0 {
		return r.Start
	}
	return left[day-1]
}

// drawnTo returns what is in the tank when water was drawn on the day, of what is left after each day.
func drawnTo(r river.River, plan []int, x river.Truth, left []int, day int) int {
	in := before(r, left, day)
	if slices.Contains(plan, day) && isGoodIn(r, x, day) {
		in = min(r.Size, in+r.Draw)
	}
	return in
}

func isLacking(r river.River, plan []int, x river.Truth, left []int, day int) bool {
	return drawnTo(r, plan, x, left, day) < r.Use[day]
}

// P8.8
func TestNothingIsLost(t *testing.T) {
	enough, lacking, full := 0, 0, 0
	for _, r := range append(rivers(), four(), untrue()) {
		for _, plan := range plansOf(r) {
			for _, x := range allTruths(r) {
				left := playOf(t, r, plan, x)
				for day, n := range left {
					if n < 0 || n > r.Size {
						t.Errorf("%v, %v, %v: %d is in the tank after %d", r, plan, x, n, day)
					}
					in := drawnTo(r, plan, x, left, day)
					if in == r.Size {
						full++
					}
					if isLacking(r, plan, x, left, day) {
						lacking++
						if n != 0 {
							t.Errorf("%v, %v, %v: water is lacking on %d, but %d is in the tank", r, plan, x, day, n)
						}
						continue
					}
					enough++
					if n != in-r.Use[day] {
						t.Errorf("%v, %v, %v: %d is in the tank after %d, not %d less %d", r, plan, x, n, day, in, r.Use[day])
					}
				}
			}
		}
	}
	if enough < 5000 || lacking < 5000 || full < 1000 {
		t.Errorf("there is enough %d times, too little %d times, and the tank is full %d times: the rivers say too little", enough, lacking, full)
	}
}

// onMore returns the plans with one day more.
func onMore(r river.River, plan []int) (out [][]int) {
	for day := range r.Last + 1 {
		if !slices.Contains(plan, day) {
			l := append(slices.Clone(plan), day)
			slices.Sort(l)
			out = append(out, l)
		}
	}
	return out
}

// P8.9
func TestMoreDays(t *testing.T) {
	stayed, later, fuller := 0, 0, 0
	for _, r := range append(rivers(), four(), untrue()) {
		all := allTruths(r)
		for _, plan := range plansOf(r) {
			for _, more := range onMore(r, plan) {
				for _, x := range all {
					less, left := playOf(t, r, plan, x), playOf(t, r, more, x)
					if !noneLess(less, left) {
						t.Errorf("%v, %v: with %v less is in the tank than with %v", r, x, more, plan)
					}
					if !slices.Equal(less, left) {
						fuller++
					}
				}
				if !hasTruth(r) {
					continue
				}
				if isSure(r, plan) {
					stayed++
					if !isSure(r, more) {
						t.Errorf("%v: %v is sure, but not %v", r, plan, more)
					}
				}
				day, next := dryOf(t, r, plan), dryOf(t, r, more)
				if next < day {
					t.Errorf("%v: the tank is dry on %d with %v, but on %d with %v", r, day, plan, next, more)
				}
				if next > day {
					later++
				}
			}
		}
	}
	if stayed < 200 || later < 200 || fuller < 1000 {
		t.Errorf("%d plans stay sure, %d are dry later, and %d tanks fuller: the rivers say too little", stayed, later, fuller)
	}
}

// P8.10
func TestNoFewer(t *testing.T) {
	tried, refused := 0, 0
	for _, r := range trueRivers() {
		fewest, ok := fewestOf(t, r)
		all := allPlans(r)
		if ok != isSure(r, all[len(all)-1]) {
			t.Errorf("%v has a sure plan: %v, but that of all days is not as sure", r, ok)
		}
		if ok && !isSure(r, fewest) {
			t.Errorf("%v: %v is not sure", r, fewest)
		}
		for _, day := range fewest {
			if goodOf(t, r, day) == never {
				t.Errorf("%v: %v has the day %d, which is good never", r, fewest, day)
			}
		}
		for _, plan := range all {
			is := isSure(r, plan)
			if is != (lastsOf(t, r, plan) == always) {
				t.Errorf("%v: %v is proved: %v, but Lasts says something else", r, plan, is)
			}
			if !is {
				refused++
				continue
			}
			tried++
			if !ok || len(plan) < len(fewest) || len(plan) == len(fewest) && slices.Compare(plan, fewest) < 0 {
				t.Errorf("%v: %v is sure, but the fewest days are %v", r, plan, fewest)
			}
			if river.ProvePlan(r, plan, len(fewest)-1) {
				t.Errorf("%v: %v has fewer days than %v", r, plan, fewest)
			}
		}
	}
	if tried < 500 || refused < 500 {
		t.Errorf("%d plans are sure, and %d are not: the rivers say too little", tried, refused)
	}
}

// P8.11
func TestSmallestTank(t *testing.T) {
	smaller, none := 0, 0
	sized := func(r river.River, size int) river.River {
		return changed(r, func(r *river.River) { r.Size = size })
	}
	for _, r := range trueRivers() {
		n, e := river.Need(r)
		if e == api.ErrShort {
			none++
			if plan, ok := fewestOf(t, sized(r, api.MaxRiverTank)); ok {
				t.Errorf("%v: with the largest tank %v is sure", r, plan)
			}
			if n != 0 {
				t.Errorf("%v: %d comes with an error", r, n)
			}
			continue
		}
		answered(t, "Need", r, e)
		if n < r.Start {
			t.Errorf("%v: the tank %d is smaller than what is in it", r, n)
		}
		if _, ok := fewestOf(t, sized(r, n)); !ok {
			t.Errorf("%v: with the tank %d there is no sure plan", r, n)
		}
		if n > r.Start {
			smaller++
			if plan, ok := fewestOf(t, sized(r, n-1)); ok {
				t.Errorf("%v: with the tank %d, too, %v is sure", r, n-1, plan)
			}
		}
		if _, ok := fewestOf(t, r); ok != (n <= r.Size) {
			t.Errorf("%v has a sure plan: %v, but the smallest tank is %d", r, ok, n)
		}
		for _, size := range list(r.Start, api.MaxRiverTank) {
			if m, e := river.Need(sized(r, size)); m != n || e != api.OK {
				t.Errorf("%v: with the Size %d the smallest tank is %d, %v, not %d", r, size, m, e, n)
			}
		}
	}
	if smaller < 50 || none < 20 {
		t.Errorf("%d smallest tanks are greater than what is in them, and %d rivers have none: they say too little", smaller, none)
	}
}

// betterRivers returns the river with something better: a greater Size, Start or Draw, a smaller Use, or a greater Sweet or Clear.
func betterRivers(r river.River) (out []river.River) {
	add := func(may bool, change func(r *river.River)) {
		if may {
			out = append(out, changed(r, change))
		}
	}
	add(r.Size < api.MaxRiverTank, func(r *river.River) { r.Size++ })
	add(r.Size < api.MaxRiverTank, func(r *river.River) { r.Size = min(api.MaxRiverTank, r.Size+7) })
	add(r.Start < r.Size, func(r *river.River) { r.Start++ })
	add(r.Start < r.Size, func(r *river.River) { r.Start = r.Size })
	add(r.Draw < api.MaxRiverTank, func(r *river.River) { r.Draw++ })
	add(r.Draw < api.MaxRiverTank, func(r *river.River) { r.Draw = min(api.MaxRiverTank, r.Draw+4) })
	add(r.Sweet < api.MaxRiverSalt, func(r *river.River) { r.Sweet++ })
	add(r.Clear < api.MaxRiverSalt, func(r *river.River) { r.Clear++ })
	for day, use := range r.Use {
		add(use > 0, func(r *river.River) { r.Use[day]-- })
		add(use > 0, func(r *river.River) { r.Use[day] = 0 })
	}
	return out
}

// P8.12
func TestMore(t *testing.T) {
	stayed, fewer := 0, 0
	for _, r := range trueRivers() {
		fewest, ok := fewestOf(t, r)
		for _, z := range betterRivers(r) {
			for _, plan := range plansOf(r) {
				if isSure(r, plan) {
					stayed++
					if !isSure(z, plan) {
						t.Errorf("%v is sure of %v, but not of %v", plan, r, z)
					}
				}
			}
			other, is := fewestOf(t, z)
			if ok && (!is || len(other) > len(fewest)) {
				t.Errorf("the fewest days of %v are %v, but of %v %v (%v)", r, fewest, z, other, is)
			}
			if is && (!ok || len(other) < len(fewest)) {
				fewer++
			}
		}
	}
	if stayed < 1000 || fewer < 100 {
		t.Errorf("%d plans stay sure, and %d times fewer days are enough: the rivers say too little", stayed, fewer)
	}
}

// P8.13
func TestStorm(t *testing.T) {
	borne, more := 0, 0
	for _, r := range trueRivers() {
		fewest, ok := fewestOf(t, r)
		for day := range r.Last + 1 {
			plan, e := river.Storm(r, day)
			if e == api.ErrShort {
				continue
			}
			answered(t, "Storm", r, e)
			borne++
			if !ok || len(fewest) > len(plan) {
				t.Errorf("%v: with a storm on %d %v is sure, but the fewest days are %v (%v)", r, day, plan, fewest, ok)
			}
			if !isSure(r, plan) {
				t.Errorf("%v: with a storm on %d %v is sure, but not without it", r, day, plan)
			}
			if len(fewest) < len(plan) {
				more++
			}
			if day > 0 {
				continue
			}
			// A storm on the day 0 is the same as no Start.
			without := changed(r, func(r *river.River) { r.Start = 0 })
			if other, _ := fewestOf(t, without); !slices.Equal(other, plan) {
				t.Errorf("%v: with a storm on the day 0 the fewest days are %v, but without Start %v", r, plan, other)
			}
		}
	}
	if borne < 100 || more < 30 {
		t.Errorf("%d storms can be borne, %d of them with more days: the rivers say too little", borne, more)
	}
}

// P8.14
func TestOneMoreGauge(t *testing.T) {
	for k, r := range append(rivers(), four(), untrue()) {
		if len(r.Gauges) == api.MaxRiverGauges {
			continue
		}
		out := len(leaveOf(t, r))
		for i, g := range allGauges(r) {
			z := with(r, g)
			if more := len(leaveOf(t, z)); more < out || more > out+1 {
				t.Errorf("%v: with the gauge %v %d are left out, not %d", r, g, more, out)
			}
			if r.Last < 3 || (i+k)%4 == 0 {
				atLeast(t, r, z)
			}
		}
	}
}

// atLeast checks that of the river z, which allows no more than r, all is known that is known of r.
func atLeast(t *testing.T, r, z river.River) {
	t.Helper()
	if !hasTruth(z) {
		return
	}
	if !hasTruth(r) {
		t.Errorf("%v has a truth, but %v has none", z, r)
		return
	}
	for _, plan := range plansOf(r) {
		if isSure(r, plan) && !isSure(z, plan) {
			t.Errorf("%v is sure of %v, but not of %v", plan, r, z)
		}
		wide, narrow := tankOf(t, r, plan), tankOf(t, z, plan)
		for day := range wide {
			if !isWithin(narrow[day], wide[day]) {
				t.Errorf("%v, %v: %v is in the tank after %d, though %v of %v", z, plan, narrow[day], day, wide[day], r)
			}
		}
		if n, m := lastsOf(t, r, plan), lastsOf(t, z, plan); n != perhaps && n != m {
			t.Errorf("%v, %v: Lasts is %d, though %d of %v", z, plan, m, n, r)
		}
		if n, m := dryOf(t, r, plan), dryOf(t, z, plan); m < n {
			t.Errorf("%v, %v: Dry is %d, though %d of %v", z, plan, m, n, r)
		}
	}
	for day := range r.Last + 1 {
		if n, m := goodOf(t, r, day), goodOf(t, z, day); n != perhaps && n != m {
			t.Errorf("%v: Good of %d is %d, though %d of %v", z, day, m, n, r)
		}
	}
	fewest, ok := fewestOf(t, r)
	if other, is := fewestOf(t, z); ok && (!is || len(other) > len(fewest)) {
		t.Errorf("the fewest days of %v are %v, but of %v %v (%v)", r, fewest, z, other, is)
	}
}

// P8.15
func TestWider(t *testing.T) {
	fewer := 0
	for k, r := range append(rivers(), four(salt(1, 4, 4)), untrue()) {
		var all, read []river.River
		widen := func(r river.Range, add func(r river.Range)) {
			for i, w := range []river.Range{to(max(0, r.Lo-1), r.Hi), to(r.Lo, min(9, r.Hi+1)), to(max(0, r.Lo-1), min(9, r.Hi+1))} {
				if w != r && (k+i)%3 > 0 {
					add(w)
				}
			}
		}
		for day := range r.Last + 1 {
			widen(r.Salt[day], func(w river.Range) {
				all = append(all, changed(r, func(z *river.River) { z.Salt[day] = w }))
			})
			widen(r.Mud[day], func(w river.Range) {
				all = append(all, changed(r, func(z *river.River) { z.Mud[day] = w }))
			})
		}
		for i, g := range r.Gauges {
			widen(g.Read, func(w river.Range) {
				read = append(read, changed(r, func(z *river.River) { z.Gauges[i].Read = w }))
			})
		}
		out := len(leaveOf(t, r))
		for i, z := range append(all, read...) {
			more := len(leaveOf(t, z))
			if more > out {
				t.Errorf("%v: %d are left out, but of %v %d", z, more, r, out)
			}
			if more < out {
				fewer++
			}
			if i%2 == 0 || r.Last < 3 {
				atLeast(t, z, r)
			}
		}
	}
	if fewer < 50 {
		t.Errorf("only %d times fewer are left out: the rivers say too little", fewer)
	}
}

// P8.16
func TestBeforeTheFirst(t *testing.T) {
	wrong := 0
	for _, r := range append(rivers(), untrue()) {
		n, e := river.First(r)
		if e == api.ErrNone {
			if !hasTruth(r) {
				t.Errorf("%v has no truth, and no first wrong gauge", r)
			}
			continue
		}
		answered(t, "First", r, e)
		wrong++
		z := changed(r, func(r *river.River) { r.Gauges = r.Gauges[:n] })
		if !hasTruth(z) || len(proved(z)) == 0 {
			t.Errorf("%v: there is no truth before the gauge %d", r, n)
		}
		z = with(z, r.Gauges[n])
		if hasTruth(z) || len(proved(z)) > 0 {
			t.Errorf("%v: there is a truth with the gauge %d", r, n)
		}
	}
	if wrong < 60 {
		t.Errorf("only %d rivers have a wrong gauge: they say too little", wrong)
	}
}

// P8.17
func TestLeftOut(t *testing.T) {
	for _, r := range append(rivers(), untrue()) {
		out := leaveOf(t, r)
		sets := allSets(len(r.Gauges))
		at := slices.IndexFunc(sets, func(set []int) bool { return slices.Equal(set, out) })
		if at < 0 {
			t.Errorf("%v: %v is no set of gauges", r, out)
			continue
		}
		if z := without(r, out); !hasTruth(z) || len(proved(z)) == 0 {
			t.Errorf("%v: without %v there is no truth", r, out)
		}
		for _, set := range sets[:at] {
			if z := without(r, set); hasTruth(z) || len(proved(z)) > 0 {
				t.Errorf("%v: %v can be left out, and is before %v", r, set, out)
			}
		}
	}
}
