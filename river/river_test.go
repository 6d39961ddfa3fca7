package river_test

import (
	"math"
	"slices"
	"testing"

	"anil/api"
	"anil/river"
)

// The promises P8.1 to P8.6: the chapter's examples, the edges, and all rivers of the list against what the chapter defines.

// long returns a river with these Salt, on which nothing is drawn or used.
func long(l ...river.Range) river.River {
	return river.River{Last: len(l) - 1, Salt: l, Mud: make([]river.Range, len(l)), Use: make([]int, len(l))}
}

// tank returns a river with a tank, on which all days are good but the bad ones.
func tank(size, start, draw int, use []int, bad ...int) river.River {
	r := long(make([]river.Range, len(use))...)
	r.Size, r.Start, r.Draw, r.Use = size, start, draw, use
	for _, day := range bad {
		r.Salt[day] = to(1, 1)
	}
	return r
}

// used returns the river of the examples with another Use.
func used(l ...int) river.River {
	return changed(four(), func(r *river.River) { r.Use = l })
}

// P8.1
func TestCheckRiver(t *testing.T) {
	bad := func(r river.River) river.River {
		return changed(r, func(r *river.River) { r.Draw = 100 })
	}
	muddy := func(r river.River, l ...river.Range) river.River {
		return changed(r, func(r *river.River) { copy(r.Mud, l) })
	}
	wide := long(ranges(2, 5, 3, 9, 0, 7, 1, 9)...)
	for _, x := range []struct {
		name string
		want api.Errno
		r    river.River
	}{
		{"the example", api.OK, four()},
		{"nothing but the day 0", api.OK, still()},
		{"the largest river", api.OK, largest()},
		{"without a truth", api.OK, untrue()},
		{"the zero value", api.ErrArg, river.River{}},
		{"Last 5", api.OK, long(make([]river.Range, 6)...)},
		{"Last 6", api.ErrLimit, long(make([]river.Range, 7)...)},
		{"Last 6, and else not valid", api.ErrLimit, river.River{Last: 6}},
		{"a huge Last", api.ErrLimit, river.River{Last: math.MaxInt}},
		{"Last -1", api.ErrArg, long()},
		{"the smallest Last", api.ErrArg, changed(still(), func(r *river.River) { r.Last = math.MinInt })},
		{"a day without Salt", api.ErrArg, changed(four(), func(r *river.River) { r.Salt = r.Salt[:3] })},
		{"a day without Mud", api.ErrArg, changed(four(), func(r *river.River) { r.Mud = r.Mud[:3] })},
		{"a day without Use", api.ErrArg, changed(four(), func(r *river.River) { r.Use = r.Use[:3] })},
		{"Salt without a day", api.ErrArg, changed(four(), func(r *river.River) { r.Salt = append(r.Salt, to(0, 0)) })},
		{"Mud without a day", api.ErrArg, changed(four(), func(r *river.River) { r.Mud = append(r.Mud, to(0, 0)) })},
		{"Use without a day", api.ErrArg, changed(four(), func(r *river.River) { r.Use = append(r.Use, 0) })},
		{"no Salt", api.ErrArg, changed(still(), func(r *river.River) { r.Salt = nil })},
		{"no Mud", api.ErrArg, changed(still(), func(r *river.River) { r.Mud = nil })},
		{"no Use", api.ErrArg, changed(still(), func(r *river.River) { r.Use = nil })},
		{"5 gauges", api.OK, four(slices.Repeat([]river.Gauge{salt(0, 0, 0)}, 5)...)},
		{"6 gauges", api.ErrLimit, four(slices.Repeat([]river.Gauge{salt(0, 0, 0)}, 6)...)},
		{"6 gauges, and not valid", api.ErrLimit, bad(four(make([]river.Gauge, 6)...))},
		{"6 gauges, and too many truths", api.ErrLimit, with(wide, make([]river.Gauge, 6)...)},
		{"bad", api.ErrArg, bad(four())},
		{"more at first than the tank holds", api.ErrArg, tank(5, 6, 0, list(0))},
		{"a tank that is full at first", api.OK, tank(6, 6, 0, list(0))},
		{"more is drawn than the tank holds", api.OK, tank(0, 0, 99, list(99))},
		{"2000 truths of Salt", api.OK, long(ranges(0, 9, 0, 1, 0, 9, 0, 9)...)},
		{"2000 truths of Salt and Mud", api.OK, muddy(long(ranges(0, 4, 5, 8, 0, 0)...), to(0, 4), to(3, 6), to(5, 9))},
		{"2000 truths of six days", api.OK, muddy(long(ranges(0, 1, 0, 4, 0, 1, 0, 4, 8, 9, 0, 4)...), to(2, 3))},
		{"2016 truths of Salt", api.ErrLimit, wide},
		{"2016 truths of Salt and Mud", api.ErrLimit, muddy(long(ranges(0, 2, 1, 4, 2, 4)...), to(3, 6), to(0, 6), to(7, 8))},
		{"2016 truths of Mud", api.ErrLimit, muddy(long(make([]river.Range, 4)...), ranges(2, 5, 3, 9, 0, 7, 1, 9)...)},
		{"2016 truths, and not valid", api.ErrArg, bad(wide)},
		{"2016 truths, and a bad gauge", api.ErrArg, with(wide, salt(4, 0, 0))},
		{"all truths of the widest ranges", api.ErrLimit, muddy(long(slices.Repeat(ranges(0, 9), 6)...), slices.Repeat(ranges(0, 9), 6)...)},
	} {
		if e := river.CheckRiver(x.r); e != x.want {
			t.Errorf("%s: %v", x.name, e)
		}
	}
}

// P8.1: TestCheckNumbers changes one number of a river at a time, to both sides of its limits.
func TestCheckNumbers(t *testing.T) {
	many := func(n int) int { return min(max(0, n), 20) }
	for _, x := range []struct {
		name      string
		low, high int // what is valid
		set       func(r *river.River, n int)
	}{
		{"Sweet", 0, 9, func(r *river.River, n int) { r.Sweet = n }},
		{"Clear", 0, 9, func(r *river.River, n int) { r.Clear = n }},
		{"Size", 3, 99, func(r *river.River, n int) { r.Size = n }}, // 3 is in the tank
		{"Size of an empty tank", 0, 99, func(r *river.River, n int) { r.Start, r.Size = 0, n }},
		{"Start", 0, 10, func(r *river.River, n int) { r.Start = n }},
		{"Start in the largest tank", 0, 99, func(r *river.River, n int) { r.Start, r.Size = n, 99 }},
		{"Start in no tank", 0, 0, func(r *river.River, n int) { r.Start, r.Size = n, 0 }},
		{"Size and Start", 0, 99, func(r *river.River, n int) { r.Start, r.Size = n, n }},
		{"Draw", 0, 99, func(r *river.River, n int) { r.Draw = n }},
		{"Use", 0, 99, func(r *river.River, n int) { r.Use[0] = n }},
		{"Use of the last day", 0, 99, func(r *river.River, n int) { r.Use[3] = n }},
		{"Day of a gauge", 0, 3, func(r *river.River, n int) { r.Gauges[0].Day = n }},
		{"Day of the last gauge", 0, 3, func(r *river.River, n int) { r.Gauges[1].Day = n }},
		{"how many Salt", 4, 4, func(r *river.River, n int) { r.Salt = make([]river.Range, many(n)) }},
		{"how many Mud", 4, 4, func(r *river.River, n int) { r.Mud = make([]river.Range, many(n)) }},
		{"how many Use", 4, 4, func(r *river.River, n int) { r.Use = make([]int, many(n)) }},
		{"Last", 3, 3, func(r *river.River, n int) { r.Last = min(n, api.MaxRiverLast) }}, // there are four days
	} {
		for _, n := range list(x.low, x.high, x.low-1, x.high+1, (x.low+x.high)/2, math.MinInt, math.MaxInt, -7, 77777) {
			r := four(salt(2, 0, 0), mud(3, 0, 0))
			x.set(&r, n)
			checks(t, x.name, r, x.low <= n && n <= x.high)
		}
	}
}

// P8.1: TestCheckRanges changes one range of a river at a time.
func TestCheckRanges(t *testing.T) {
	all := ranges(0, 0, 9, 9, 0, 9, 8, 10, 10, 10, -1, 3, -2, -1, 4, 3, 1, 0, 9, 8, 0, 10, 3, 5,
		math.MinInt, math.MaxInt, math.MaxInt, math.MinInt, 0, math.MaxInt, math.MinInt, 0, math.MaxInt, math.MaxInt, math.MinInt, math.MinInt)
	for _, r := range all {
		valid := 0 <= r.Lo && r.Lo <= r.Hi && r.Hi <= 9
		for day := range 4 {
			checks(t, "Salt", changed(untrue(), func(z *river.River) { z.Salt[day] = r }), valid)
			checks(t, "Mud", changed(untrue(), func(z *river.River) { z.Mud[day] = r }), valid)
		}
		for i := range 2 {
			checks(t, "Read", changed(untrue(), func(z *river.River) { z.Gauges[i].Read = r }), valid)
			checks(t, "Read of Mud", changed(untrue(), func(z *river.River) { z.Gauges[i] = river.Gauge{Mud: true, Read: r} }), valid)
		}
	}
}

func checks(t *testing.T, what string, r river.River, valid bool) {
	t.Helper()
	want := api.ErrArg
	if valid {
		want = api.OK
	}
	if e := river.CheckRiver(r); e != want {
		t.Errorf("%s: CheckRiver of %v: %v", what, r, e)
	}
}

// P8.1
func TestExampleOfPlay(t *testing.T) {
	l, e := river.Play(four(), list(1, 2), truthOf(list(2, 3, 0, 5), list(0, 1, 5, 0)))
	if !slices.Equal(l, list(0, 3, 1, 0)) || e != api.OK {
		t.Errorf("Play: %v, %v", l, e)
	}
	l, e = river.Play(four(), list(0, 2), truthOf(list(2, 3, 0, 5), list(0, 1, 4, 0)))
	if !slices.Equal(l, list(6, 3, 7, 6)) || e != api.OK {
		t.Errorf("Play: %v, %v", l, e)
	}
	if l, e = river.Play(still(), nil, truthOf(list(0), list(0))); !slices.Equal(l, list(0)) || e != api.OK {
		t.Errorf("Play of one day: %v, %v", l, e)
	}
}

// edge is a river that has one truth, and what is so of its tank with a plan.
type edge struct {
	name string
	r    river.River
	plan []int
	left []int
	dry  int // the first day on which water is lacking, or lasts
}

// none stands for no number; in a list it stands for no plan.
const none = -1

// lasts stands for no day on which water is lacking.
const lasts = -1

// P8.1, P8.2, P8.3, P8.4: what is just enough, and one less or more.
func TestEdgesOfTheTank(t *testing.T) {
	all := slices.Repeat(list(99), 6)
	for _, x := range []edge{
		{"just what is used", tank(9, 3, 0, list(3)), nil, list(0), lasts},
		{"one less than is used", tank(9, 2, 0, list(3)), nil, list(0), 0},
		{"one more than is used", tank(9, 4, 0, list(3)), nil, list(1), lasts},
		{"nothing is used", tank(9, 4, 0, list(0, 0)), nil, list(4, 4), lasts},
		{"just what is drawn is used", tank(9, 0, 3, list(3)), list(0), list(0), lasts},
		{"one less is drawn", tank(9, 0, 2, list(3)), list(0), list(0), 0},
		{"not drawn", tank(9, 0, 3, list(3)), nil, list(0), 0},
		{"drawn, but not good", tank(9, 0, 3, list(3), 0), list(0), list(0), 0},
		{"just full", tank(9, 4, 5, list(0)), list(0), list(9), lasts},
		{"one more than full", tank(9, 4, 6, list(0)), list(0), list(9), lasts},
		{"one less than full", tank(9, 4, 4, list(0)), list(0), list(8), lasts},
		{"full, and all used", tank(9, 4, 99, list(9)), list(0), list(0), lasts},
		{"full, and one more used", tank(9, 4, 99, list(10)), list(0), list(0), 0},
		{"drawn before it is used", tank(5, 5, 5, list(5)), list(0), list(0), lasts},
		{"drawn on the day before alone", tank(5, 5, 5, list(5, 5)), list(0), list(0, 0), 1},
		{"drawn on the day itself", tank(5, 5, 5, list(5, 5)), list(1), list(0, 0), lasts},
		{"nothing is owed of a lack", tank(9, 1, 3, list(3, 3)), list(1), list(0, 0), 0},
		{"a lack after two days", tank(9, 3, 0, list(1, 1, 2)), nil, list(2, 1, 0), 2},
		{"a lack, and none at last", tank(9, 3, 4, list(1, 3, 2)), list(2), list(2, 0, 2), 1},
		{"no tank", tank(0, 0, 99, list(0, 0)), list(0, 1), list(0, 0), lasts},
		{"no tank, and use", tank(0, 0, 99, list(0, 1)), list(0, 1), list(0, 0), 1},
		{"the largest numbers", tank(99, 99, 99, all), list(1, 2, 3, 4, 5), list(0, 0, 0, 0, 0, 0), lasts},
		{"the largest numbers, and a bad last day", tank(99, 99, 99, all, 5), list(0, 1, 2, 3, 4, 5), list(0, 0, 0, 0, 0, 0), 5},
		{"on the last day alone", tank(50, 0, 20, list(0, 0, 0, 0, 0, 7)), list(5), list(0, 0, 0, 0, 0, 13), lasts},
	} {
		isSo(t, x)
	}
}

// isSo checks all that is said of the tank.
func isSo(t *testing.T, x edge) {
	t.Helper()
	left, e := river.Play(x.r, x.plan, allTruths(x.r)[0])
	bounds, f := river.Tank(x.r, x.plan)
	var want []river.Range
	for _, n := range x.left {
		want = append(want, to(n, n))
	}
	if !slices.Equal(left, x.left) || e != api.OK || !slices.Equal(bounds, want) || f != api.OK {
		t.Errorf("%s: Play, Tank: %v, %v; %v, %v", x.name, left, e, bounds, f)
	}
	verdict, dry, none := never, x.dry, api.OK
	if x.dry == lasts {
		verdict, dry, none = always, 0, api.ErrNone
	}
	if n, e := river.Lasts(x.r, x.plan); n != verdict || e != api.OK {
		t.Errorf("%s: Lasts: %d, %v", x.name, n, e)
	}
	if n, e := river.Dry(x.r, x.plan); n != dry || e != none {
		t.Errorf("%s: Dry: %d, %v", x.name, n, e)
	}
	if river.ProvePlan(x.r, x.plan, len(x.plan)) != (x.dry == lasts) {
		t.Errorf("%s: ProvePlan", x.name)
	}
}

// P8.1
func TestTruths(t *testing.T) {
	wet, dry := list(2, 3, 0, 5), list(0, 1, 5, 0)
	for _, x := range []struct {
		name  string
		r     river.River
		t     river.Truth
		truth bool
		e     api.Errno
	}{
		{"the example", four(), truthOf(wet, dry), true, api.OK},
		{"the lowest numbers", four(), truthOf(list(2, 3, 0, 5), list(0, 1, 4, 0)), true, api.OK},
		{"the highest numbers", four(), truthOf(list(3, 4, 0, 6), list(0, 1, 5, 0)), true, api.OK},
		{"a gauge that is right", four(salt(1, 3, 3)), truthOf(wet, dry), true, api.OK},
		{"a gauge that is false", four(salt(1, 4, 4)), truthOf(wet, dry), false, api.OK},
		{"a gauge of mud that is right", four(mud(2, 5, 5)), truthOf(wet, dry), true, api.OK},
		{"a gauge of mud that is false", four(mud(2, 4, 4)), truthOf(wet, dry), false, api.OK},
		{"a gauge of mud that would be right of salt", four(mud(1, 3, 3)), truthOf(wet, dry), false, api.OK},
		{"a gauge of salt that would be right of mud", four(salt(1, 1, 1)), truthOf(wet, dry), false, api.OK},
		{"just the least that is read", four(salt(3, 5, 9)), truthOf(wet, dry), true, api.OK},
		{"just the greatest that is read", four(salt(3, 0, 5)), truthOf(wet, dry), true, api.OK},
		{"less than is read", four(salt(3, 6, 9)), truthOf(wet, dry), false, api.OK},
		{"more than is read", four(salt(3, 0, 4)), truthOf(wet, dry), false, api.OK},
		{"the last one of gauges is false", four(salt(0, 2, 2), mud(0, 0, 0), salt(1, 4, 4)), truthOf(wet, dry), false, api.OK},
		{"the first one of gauges is false", four(salt(1, 4, 4), salt(0, 2, 2), mud(0, 0, 0)), truthOf(wet, dry), false, api.OK},
		{"without a truth", untrue(), truthOf(wet, dry), false, api.OK},
		{"one day", still(), truthOf(list(0), list(0)), true, api.OK},
		{"the largest river", changed(largest(), func(r *river.River) { r.Gauges = nil }), truthOf(list(9, 6, 7, 9, 1, 4), list(0, 3, 9, 4, 5, 5)), true, api.OK},
		{"too little salt", four(), truthOf(list(1, 3, 0, 5), dry), false, api.ErrRange},
		{"too much salt", four(), truthOf(list(4, 3, 0, 5), dry), false, api.ErrRange},
		{"too little salt on the last day", four(), truthOf(list(2, 3, 0, 4), dry), false, api.ErrRange},
		{"too much salt on the last day", four(), truthOf(list(2, 3, 0, 7), dry), false, api.ErrRange},
		{"too little mud", four(), truthOf(wet, list(-1, 1, 5, 0)), false, api.ErrRange},
		{"too much mud", four(), truthOf(wet, list(1, 1, 5, 0)), false, api.ErrRange},
		{"too little mud on the day 2", four(), truthOf(wet, list(0, 1, 3, 0)), false, api.ErrRange},
		{"too much mud on the day 2", four(), truthOf(wet, list(0, 1, 6, 0)), false, api.ErrRange},
		{"too much mud on the last day", four(), truthOf(wet, list(0, 1, 5, 1)), false, api.ErrRange},
		{"a day of salt too few", four(), truthOf(wet[:3], dry), false, api.ErrRange},
		{"a day of salt too many", four(), truthOf(append(slices.Clone(wet), 0), dry), false, api.ErrRange},
		{"many days of salt too many", four(), truthOf(append(slices.Clone(wet), make([]int, 99)...), dry), false, api.ErrRange},
		{"a day of mud too few", four(), truthOf(wet, dry[:3]), false, api.ErrRange},
		{"a day of mud too many", four(), truthOf(wet, append(slices.Clone(dry), 0)), false, api.ErrRange},
		{"many days of mud too many", four(), truthOf(wet, append(slices.Clone(dry), make([]int, 99)...)), false, api.ErrRange},
		{"no salt", four(), truthOf(nil, dry), false, api.ErrRange},
		{"no mud", four(), truthOf(wet, nil), false, api.ErrRange},
		{"nothing", four(), river.Truth{}, false, api.ErrRange},
		{"nothing of one day", still(), river.Truth{}, false, api.ErrRange},
		{"huge numbers", four(), truthOf(list(math.MaxInt, math.MinInt, 0, 5), dry), false, api.ErrRange},
		{"huge numbers of mud", four(), truthOf(wet, list(math.MaxInt, math.MinInt, 0, 5)), false, api.ErrRange},
		{"no truth, and a gauge that is false", untrue(), truthOf(list(1, 3, 0, 5), dry), false, api.ErrRange},
		{"not valid", used(3, 3, 2, 100), truthOf(wet, dry), false, api.ErrArg},
		{"not valid for a gauge", four(salt(4, 0, 9)), truthOf(wet, dry), false, api.ErrArg},
		{"too long", river.River{Last: 6}, river.Truth{}, false, api.ErrLimit},
		{"too many gauges", four(slices.Repeat([]river.Gauge{salt(0, 0, 9)}, 6)...), truthOf(wet, dry), false, api.ErrLimit},
	} {
		_, e := river.Play(x.r, list(0, 3), x.t)
		if x.r.Last == 0 {
			_, e = river.Play(x.r, nil, x.t)
		}
		if is := river.ProveTruth(x.r, x.t); e != x.e || is != x.truth {
			t.Errorf("%s: Play: %v, ProveTruth: %v", x.name, e, is)
		}
	}
}

// P8.1, P8.2, P8.3, P8.4
func TestPlans(t *testing.T) {
	for _, x := range []struct {
		plan  []int
		valid bool
	}{
		{nil, true}, {list(0), true}, {list(3), true}, {list(0, 3), true}, {list(1, 2), true}, {list(0, 1, 2, 3), true},
		{list(-1), false}, {list(4), false}, {list(-1, 0), false}, {list(0, 4), false}, {list(0, 1, 2, 3, 4), false},
		{list(0, 0), false}, {list(3, 3), false}, {list(1, 0), false}, {list(0, 2, 1), false}, {list(0, 1, 1), false}, {list(2, 3, 0), false},
		{list(math.MinInt), false}, {list(math.MaxInt), false}, {list(math.MinInt, math.MaxInt), false}, {list(0, math.MaxInt), false}, {make([]int, 99), false},
	} {
		for _, r := range []river.River{four(), untrue(), used(0, 0, 0, 0)} {
			_, e := river.Play(r, x.plan, truthOf(list(2, 3, 0, 5), list(0, 1, 5, 0)))
			_, f := river.Tank(r, x.plan)
			_, g := river.Lasts(r, x.plan)
			_, h := river.Dry(r, x.plan)
			for _, got := range []api.Errno{e, f, g, h} {
				if (got != api.ErrRange) != x.valid {
					t.Errorf("%v of %v: %v", x.plan, r, got)
				}
			}
			if !x.valid && river.ProvePlan(r, x.plan, 99) {
				t.Errorf("%v of %v is proved", x.plan, r)
			}
		}
	}
	if !river.ProvePlan(used(0, 0, 0, 0), list(0, 1, 2, 3), 4) {
		t.Error("the plan of all days is not sure, though no water is used")
	}
}

// P8.1
func TestPlayAndProveTruth(t *testing.T) {
	right, wrong, lacking := 0, 0, 0
	for _, r := range append(rivers(), four(), untrue()) {
		for _, x := range allTruths(r) {
			for i, plan := range allPlans(r) {
				if r.Last > 3 && i%5 > 0 { // some of the many
					continue
				}
				want, lack := tankIn(r, plan, x, noStorm)
				if l, e := river.Play(r, plan, x); !slices.Equal(l, want) || e != api.OK {
					t.Errorf("Play of %v, %v, %v: %v, %v, not %v", r, plan, x, l, e, want)
				}
				lacking += len(lack)
			}
			is := len(wrongIn(r, x)) == 0
			if river.ProveTruth(r, x) != is {
				t.Errorf("ProveTruth of %v, %v is not %v", r, x, is)
			}
			if is {
				right++
			} else {
				wrong++
			}
		}
	}
	if right < 1000 || wrong < 1000 || lacking < 1000 {
		t.Errorf("%d truths are right, %d wrong, and water is lacking %d times: the rivers say too little", right, wrong, lacking)
	}
}

// P8.2
func TestExamplesOfGoodAndTank(t *testing.T) {
	for _, x := range []struct {
		name string
		r    river.River
		want []int
	}{
		{"the example", four(), list(always, perhaps, perhaps, never)},
		{"it was salt on the day 1", four(salt(1, 4, 4)), list(always, never, perhaps, never)},
		{"it was not salt on the day 1", four(salt(1, 0, 3)), list(always, always, perhaps, never)},
		{"it was muddy on the day 2", four(mud(2, 5, 9)), list(always, perhaps, never, never)},
		{"it was not muddy on the day 2", four(mud(2, 4, 4)), list(always, perhaps, always, never)},
		{"Sweet 2", changed(four(), func(r *river.River) { r.Sweet = 2 }), list(perhaps, never, perhaps, never)},
		{"Sweet 4", changed(four(), func(r *river.River) { r.Sweet = 4 }), list(always, always, perhaps, never)},
		{"Sweet 5", changed(four(), func(r *river.River) { r.Sweet = 5 }), list(always, always, perhaps, perhaps)},
		{"Sweet 6", changed(four(), func(r *river.River) { r.Sweet = 6 }), list(always, always, perhaps, always)},
		{"Sweet 0", changed(four(), func(r *river.River) { r.Sweet = 0 }), list(never, never, perhaps, never)},
		{"Clear 0", changed(four(), func(r *river.River) { r.Clear = 0 }), list(always, never, never, never)},
		{"Clear 1", changed(four(), func(r *river.River) { r.Clear = 1 }), list(always, perhaps, never, never)},
		{"Clear 5", changed(four(), func(r *river.River) { r.Clear = 5 }), list(always, perhaps, always, never)},
		{"Sweet and Clear 9", changed(four(), func(r *river.River) { r.Sweet, r.Clear = 9, 9 }), list(always, always, always, always)},
		{"salt and muddy perhaps", changed(four(), func(r *river.River) { r.Mud[1] = to(4, 5) }), list(always, perhaps, perhaps, never)},
		{"salt or muddy surely", changed(four(salt(1, 4, 9), mud(1, 0, 4)), func(r *river.River) { r.Mud[1] = to(4, 5) }), list(always, never, perhaps, never)},
	} {
		for day, want := range x.want {
			if n, e := river.Good(x.r, day); n != want || e != api.OK {
				t.Errorf("%s: Good of %d: %d, %v", x.name, day, n, e)
			}
		}
	}
	for _, x := range []struct {
		r    river.River
		plan []int
		want []river.Range
		e    api.Errno
	}{
		{four(), list(0, 1), ranges(6, 6, 3, 7, 1, 5, 0, 4), api.OK},
		{four(), list(0), ranges(6, 6, 3, 3, 1, 1, 0, 0), api.OK},
		{four(), nil, ranges(0, 0, 0, 0, 0, 0, 0, 0), api.OK},
		{four(), list(3), ranges(0, 0, 0, 0, 0, 0, 0, 0), api.OK},
		{four(), list(1, 2), ranges(0, 0, 0, 3, 0, 7, 0, 6), api.OK},
		{four(salt(1, 3, 3)), list(0, 1), ranges(6, 6, 7, 7, 5, 5, 4, 4), api.OK},
		{four(mud(2, 5, 5)), list(0, 1, 2), ranges(6, 6, 3, 7, 1, 5, 0, 4), api.OK},
		{four(), list(0, 1, 2, 3), ranges(6, 6, 3, 7, 1, 8, 0, 7), api.OK},
		{still(), list(0), ranges(0, 0), api.OK},
		{untrue(), list(0), nil, api.ErrFalse}, {untrue(), list(4), nil, api.ErrRange}, {used(3, 3, 2), nil, nil, api.ErrArg}, {river.River{Last: 6}, list(0), nil, api.ErrLimit},
	} {
		if l, e := river.Tank(x.r, x.plan); !slices.Equal(l, x.want) || e != x.e {
			t.Errorf("Tank of %v, %v: %v, %v", x.r, x.plan, l, e)
		}
	}
}

// P8.2, P8.3
func TestGoodTankLastsAndDry(t *testing.T) {
	good, lasting, dry := map[int]int{}, map[int]int{}, map[int]int{}
	for _, r := range append(rivers(), four(), untrue()) {
		truths := truthsOf(r)
		if len(truths) == 0 {
			isUntrue(t, r)
			continue
		}
		for day := range r.Last + 1 {
			n, e := river.Good(r, day)
			good[n]++
			if n != wantGood(r, truths, day) || e != api.OK {
				t.Errorf("Good of %v, %d: %d, %v", r, day, n, e)
			}
		}
		for _, plan := range allPlans(r) {
			if l, e := river.Tank(r, plan); !slices.Equal(l, wantTank(r, truths, plan)) || e != api.OK {
				t.Errorf("Tank of %v, %v: %v, %v", r, plan, l, e)
			}
			n, e := river.Lasts(r, plan)
			lasting[n]++
			if n != lastingIn(r, truths, plan, noStorm) || e != api.OK {
				t.Errorf("Lasts of %v, %v: %d, %v", r, plan, n, e)
			}
			want, is := wantDry(r, truths, plan)
			if n, e := river.Dry(r, plan); n != want || is != (e == api.OK) || !is && e != api.ErrNone {
				t.Errorf("Dry of %v, %v: %d, %v, not %d", r, plan, n, e, want)
			}
			if is {
				dry[want]++
			}
		}
	}
	for v := always; v <= perhaps; v++ {
		if good[v] < 100 || lasting[v] < 500 {
			t.Errorf("of days the verdict %d comes only %d times, of tanks %d times: the rivers say too little", v, good[v], lasting[v])
		}
	}
	for day := range 6 {
		if dry[day] < 50 {
			t.Errorf("water is lacking first on the day %d only %d times: the rivers say too little", day, dry[day])
		}
	}
}

// isUntrue checks the calls about a river without a truth.
func isUntrue(t *testing.T, r river.River) {
	t.Helper()
	for day := range r.Last + 1 {
		n, e := river.Good(r, day)
		l, f := river.Storm(r, day)
		if n != 0 || e != api.ErrFalse || l != nil || f != api.ErrFalse {
			t.Errorf("Good, Storm of %v, %d: %d, %v; %v, %v", r, day, n, e, l, f)
		}
	}
	for _, plan := range allPlans(r) {
		l, e := river.Tank(r, plan)
		n, f := river.Lasts(r, plan)
		m, g := river.Dry(r, plan)
		if l != nil || e != api.ErrFalse || n != 0 || f != api.ErrFalse || m != 0 || g != api.ErrFalse || river.ProvePlan(r, plan, 9) {
			t.Errorf("Tank, Lasts, Dry of %v, %v: %v, %v; %d, %v; %d, %v, or ProvePlan", r, plan, l, e, n, f, m, g)
		}
	}
	l, e := river.Fewest(r)
	n, f := river.Need(r)
	if l != nil || e != api.ErrFalse || n != 0 || f != api.ErrFalse {
		t.Errorf("Fewest, Need of %v: %v, %v; %d, %v", r, l, e, n, f)
	}
}

// P8.3
func TestExamplesOfLastsAndDry(t *testing.T) {
	for _, x := range []struct {
		r     river.River
		plan  []int
		lasts int
		dry   int
		e     api.Errno
	}{
		{four(), list(0), always, 0, api.ErrNone}, {four(), list(1), perhaps, 1, api.OK}, {four(), nil, never, 1, api.OK},
		{four(salt(1, 4, 4)), list(1), never, 1, api.OK}, {four(salt(1, 3, 3)), list(1), always, 0, api.ErrNone},
		{four(), list(0, 1, 2, 3), always, 0, api.ErrNone}, {four(), list(2, 3), never, 1, api.OK}, {four(), list(1, 2), perhaps, 1, api.OK},
		{used(4, 0, 0, 0), nil, never, 0, api.OK}, {used(3, 0, 0, 0), nil, always, 0, api.ErrNone}, {used(0, 0, 3, 1), nil, never, 3, api.OK},
		{used(0, 0, 3, 1), list(2), perhaps, 3, api.OK}, {used(0, 4, 3, 1), list(1, 2), perhaps, 1, api.OK}, {used(0, 3, 3, 1), list(1, 2), perhaps, 2, api.OK},
		{used(0, 0, 0, 4), list(3), never, 3, api.OK}, // the river is salt
		{still(), nil, always, 0, api.ErrNone},
	} {
		n, e := river.Lasts(x.r, x.plan)
		day, f := river.Dry(x.r, x.plan)
		if n != x.lasts || e != api.OK || day != x.dry || f != x.e {
			t.Errorf("Lasts, Dry of %v, %v: %d, %v; %d, %v", x.r, x.plan, n, e, day, f)
		}
	}
	for _, x := range []struct {
		r    river.River
		plan []int
		e    api.Errno
	}{{untrue(), list(0), api.ErrFalse}, {untrue(), list(4), api.ErrRange}, {untrue(), list(0, 0), api.ErrRange}, {used(3, 3, 2), nil, api.ErrArg}, {river.River{Last: 6}, list(0), api.ErrLimit}} {
		n, e := river.Lasts(x.r, x.plan)
		day, f := river.Dry(x.r, x.plan)
		if n != 0 || e != x.e || day != 0 || f != x.e {
			t.Errorf("Lasts, Dry of %v, %v: %d, %v; %d, %v", x.r, x.plan, n, e, day, f)
		}
	}
}

// P8.4, P8.5
func TestExamplesOfFewestNeedAndStorm(t *testing.T) {
	short := list(none)
	for _, x := range []struct {
		name   string
		r      river.River
		fewest []int
		need   int
		storms [][]int // for each day
	}{
		{"the example", four(), list(0), 9, [][]int{short, short, short, short}},
		{"with the Use of the example", used(3, 3, 0, 0), list(0), 6, [][]int{list(0), short, list(0), list(0)}},
		{"with Size 8", changed(four(), func(r *river.River) { r.Size = 8 }), short, 9, [][]int{short, short, short, short}},
		{"with Size 9", changed(four(), func(r *river.River) { r.Size = 9 }), list(0), 9, [][]int{short, short, short, short}},
		{"with Size and Start 3", changed(four(), func(r *river.River) { r.Size = 3 }), short, 9, [][]int{short, short, short, short}},
		{"with Draw 5", changed(four(), func(r *river.River) { r.Draw = 5 }), short, none, [][]int{short, short, short, short}},
		{"it was sweet on the day 1", four(salt(1, 3, 3)), list(0), 6, [][]int{list(0, 1), list(1), short, short}},
		{"it was sweet, and clear", four(salt(1, 3, 3), mud(2, 4, 4)), list(0), 3, [][]int{list(0, 1), list(1), list(0, 2), short}},
		{"nothing is used", used(0, 0, 0, 0), nil, 3, [][]int{nil, nil, nil, nil}},
		{"all is used at once", used(3, 0, 0, 0), nil, 3, [][]int{list(0), nil, nil, nil}},
		{"all is used on a day that is never good", used(0, 0, 0, 3), nil, 3, [][]int{list(0), short, short, short}},
		{"one day", still(), nil, 0, [][]int{nil}},
		{"alike days", tank(9, 2, 3, list(1, 1, 1)), list(0), 2, [][]int{list(0), list(1), list(2)}},
		{"a day on which much is used", tank(9, 0, 5, list(0, 9, 0)), list(0, 1), 9, [][]int{list(0, 1), short, list(0, 1)}},
		{"too small by one", tank(4, 0, 4, list(1, 3, 4, 1), 3), short, 5, [][]int{short, short, short, short}},
		{"just large enough", tank(5, 0, 4, list(1, 3, 4, 1), 3), list(0, 1, 2), 5, [][]int{list(0, 1, 2), list(0, 1, 2), short, short}},
		{"the first day of several", tank(9, 3, 3, list(1, 1, 1, 1, 1, 1)), list(0), 3, [][]int{list(0, 1), list(1, 2), list(2, 3), list(3), list(0, 4), list(0, 5)}},
		{"the largest tank is just enough", tank(0, 0, 99, list(0, 50, 49), 1, 2), short, 99, [][]int{short, short, short}},
		{"the largest tank is too small", tank(0, 0, 99, list(1, 50, 49), 1, 2), short, none, [][]int{short, short, short}},
		{"the largest tank, full at first", tank(99, 99, 0, list(99, 0)), nil, 99, [][]int{short, nil}},
		{"not smaller than Start", tank(20, 10, 0, list(1)), nil, 10, [][]int{short}},
		{"one more than Start", tank(10, 10, 10, list(1, 10), 1), short, 11, [][]int{short, short}},
	} {
		l, e := river.Fewest(x.r)
		if !isFound(l, e, x.fewest) {
			t.Errorf("%s: Fewest: %v, %v", x.name, l, e)
		}
		if is := !slices.Equal(x.fewest, short); river.ProvePlan(x.r, l, len(l)) != is || river.ProvePlan(x.r, l, len(l)-1) {
			t.Errorf("%s: ProvePlan", x.name)
		}
		if n, e := river.Need(x.r); x.need == none && (n != 0 || e != api.ErrShort) || x.need != none && (n != x.need || e != api.OK) {
			t.Errorf("%s: Need: %d, %v", x.name, n, e)
		}
		for day, want := range x.storms {
			if l, e := river.Storm(x.r, day); !isFound(l, e, want) {
				t.Errorf("%s: Storm on %d: %v, %v", x.name, day, l, e)
			}
		}
	}
	for _, x := range []struct {
		r   river.River
		day int
		e   api.Errno
	}{
		{four(), -1, api.ErrRange}, {four(), 4, api.ErrRange}, {four(), math.MinInt, api.ErrRange}, {four(), math.MaxInt, api.ErrRange}, {still(), 1, api.ErrRange},
		{untrue(), -1, api.ErrRange}, {untrue(), 4, api.ErrRange}, {untrue(), 0, api.ErrFalse}, {untrue(), 3, api.ErrFalse}, {with(used(9, 9, 9, 9), untrue().Gauges...), 0, api.ErrFalse},
		{used(3, 3, 2), 9, api.ErrArg}, {four(salt(4, 0, 0)), 0, api.ErrArg}, {river.River{Last: 6}, 9, api.ErrLimit},
	} {
		l, e := river.Storm(x.r, x.day)
		if l != nil || e != x.e {
			t.Errorf("Storm of %v, %d: %v, %v", x.r, x.day, l, e)
		}
		n, e := river.Good(x.r, x.day)
		if n != 0 || e != x.e {
			t.Errorf("Good of %v, %d: %d, %v", x.r, x.day, n, e)
		}
		if x.e == api.ErrRange {
			continue
		}
		l, e = river.Fewest(x.r)
		n, f := river.Need(x.r)
		if l != nil || e != x.e || n != 0 || f != x.e {
			t.Errorf("Fewest, Need of %v: %v, %v; %d, %v", x.r, l, e, n, f)
		}
	}
}

// isFound reports whether the days are what is wanted, or missing if none are.
func isFound(l []int, e api.Errno, want []int) bool {
	if slices.Equal(want, list(none)) {
		return l == nil && e == api.ErrShort
	}
	return slices.Equal(l, want) && e == api.OK
}

// P8.4
func TestExamplesOfProvePlan(t *testing.T) {
	for _, x := range []struct {
		r    river.River
		plan []int
		many int
		want bool
	}{
		{four(), list(0), 1, true}, {four(), list(0), 0, false}, {four(), list(0), 2, true}, {four(), list(0), math.MaxInt, true}, {four(), list(0), -1, false}, {four(), list(0), math.MinInt, false},
		{four(), list(0, 3), 2, true}, {four(), list(0, 3), 1, false}, {four(), list(0, 1, 2, 3), 4, true}, {four(), list(0, 1, 2, 3), 3, false},
		{four(), list(1), 9, false}, {four(), nil, 9, false}, {four(), list(1, 2, 3), 9, false},
		{four(), list(1, 0), 9, false}, {four(), list(0, 0), 9, false}, {four(), list(0, 4), 9, false}, {four(), list(-1, 0), 9, false},
		{used(3, 0, 0, 0), nil, 0, true}, {used(3, 0, 0, 0), nil, -1, false}, {used(3, 0, 0, 0), nil, math.MinInt, false}, {used(3, 0, 0, 0), list(0), 0, false},
		{four(salt(1, 3, 3)), list(1), 1, true}, {four(salt(1, 4, 4)), list(1), 1, false}, {four(salt(1, 4, 4)), list(0), 1, true},
		{untrue(), list(0), 9, false}, {four(salt(4, 0, 9)), list(0), 9, false}, {four(make([]river.Gauge, 6)...), list(0), 9, false}, {used(3, 3, 2), list(0), 9, false}, {river.River{}, nil, 0, false}, {still(), nil, 0, true},
	} {
		if river.ProvePlan(x.r, x.plan, x.many) != x.want {
			t.Errorf("ProvePlan of %v, %v, %d is not %v", x.r, x.plan, x.many, x.want)
		}
	}
}

// P8.4, P8.5
func TestFewestProvePlanNeedAndStorm(t *testing.T) {
	lengths, needs, storms := map[int]int{}, map[string]int{}, map[bool]int{}
	for _, r := range append(rivers(), four(), used(3, 3, 0, 0)) {
		truths := truthsOf(r)
		if len(truths) == 0 {
			continue
		}
		want, ok := wantFewest(r, truths, noStorm)
		l, e := river.Fewest(r)
		if !slices.Equal(l, want) || ok != (e == api.OK) || !ok && e != api.ErrShort {
			t.Errorf("Fewest of %v: %v, %v, not %v", r, l, e, want)
		}
		if ok {
			lengths[len(want)]++
		} else {
			lengths[none]++
		}
		for _, plan := range allPlans(r) {
			isSure := lastingIn(r, truths, plan, noStorm) == always
			for _, many := range list(len(plan)-1, len(plan), len(plan)+1) {
				if river.ProvePlan(r, plan, many) != (isSure && len(plan) <= many) {
					t.Errorf("ProvePlan of %v, %v, %d: the plan is sure: %v", r, plan, many, isSure)
				}
			}
		}
		size, ok := wantNeed(r, truths)
		n, e := river.Need(r)
		if n != size || ok != (e == api.OK) || !ok && e != api.ErrShort {
			t.Errorf("Need of %v: %d, %v, not %d", r, n, e, size)
		}
		switch {
		case !ok:
			needs["none"]++
		case size > r.Size:
			needs["more"]++
		case size > r.Start:
			needs["less"]++
		default:
			needs["Start"]++
		}
		for day := range r.Last + 1 {
			want, ok := wantFewest(r, truths, day)
			storms[ok]++
			if l, e := river.Storm(r, day); !slices.Equal(l, want) || ok != (e == api.OK) || !ok && e != api.ErrShort {
				t.Errorf("Storm of %v, %d: %v, %v, not %v", r, day, l, e, want)
			}
		}
	}
	if lengths[none] < 30 || lengths[0] < 30 || lengths[1] < 30 || lengths[2] < 20 || lengths[3] < 5 {
		t.Errorf("the rivers have so many fewest days: %v; they say too little", lengths)
	}
	if needs["none"] < 20 || needs["more"] < 10 || needs["less"] < 30 || needs["Start"] < 30 || storms[true] < 100 || storms[false] < 100 {
		t.Errorf("the smallest tanks are %v, and storms can be borne, or not: %v; the rivers say too little", needs, storms)
	}
}

// P8.6
func TestExamplesOfFirstAndLeave(t *testing.T) {
	isSalt, isSweet, isMuddy, wrong := salt(1, 4, 4), salt(1, 0, 3), mud(2, 5, 5), mud(0, 1, 9)
	for _, x := range []struct {
		r     river.River
		first int
		e     api.Errno
		leave []int
	}{
		{still(), 0, api.ErrNone, nil}, {four(), 0, api.ErrNone, nil}, {four(isSalt), 0, api.ErrNone, nil}, {four(isSweet), 0, api.ErrNone, nil}, {four(isSalt, isMuddy), 0, api.ErrNone, nil},
		{untrue(), 1, api.OK, list(0)},
		{four(isSweet, isSalt), 1, api.OK, list(0)},
		{four(wrong), 0, api.OK, list(0)},
		{four(wrong, isSalt), 0, api.OK, list(0)},
		{four(isSalt, wrong), 1, api.OK, list(1)},
		{four(isMuddy, mud(2, 4, 4)), 1, api.OK, list(0)},
		{four(isMuddy, salt(2, 4, 4)), 1, api.OK, list(1)}, // the salt of the day is 0
		{four(isSalt, isSalt, isSweet), 2, api.OK, list(2)},
		{four(isSweet, isSalt, isSalt), 1, api.OK, list(0)},
		{four(isSalt, isSweet, isSalt), 1, api.OK, list(1)},
		{four(isSalt, isSweet, wrong), 1, api.OK, list(0, 2)},
		{four(isSalt, isSweet, isSweet, isSalt), 1, api.OK, list(0, 3)},
		{four(isSalt, wrong, isSweet, wrong, isSalt), 1, api.OK, list(1, 2, 3)},
		{four(wrong, wrong, wrong, wrong, wrong), 0, api.OK, list(0, 1, 2, 3, 4)},
		{four(isSalt, isSalt, isSalt, isSalt, isSweet), 4, api.OK, list(4)},
	} {
		n, e := river.First(x.r)
		l, f := river.Leave(x.r)
		if n != x.first || e != x.e || !slices.Equal(l, x.leave) || f != api.OK {
			t.Errorf("First, Leave of %v: %d, %v; %v, %v", x.r, n, e, l, f)
		}
	}
	for _, x := range []struct {
		r river.River
		e api.Errno
	}{{river.River{}, api.ErrArg}, {four(salt(4, 0, 0)), api.ErrArg}, {river.River{Last: 6}, api.ErrLimit}, {long(ranges(2, 5, 3, 9, 0, 7, 1, 9)...), api.ErrLimit}} {
		n, e := river.First(x.r)
		l, f := river.Leave(x.r)
		if n != 0 || e != x.e || l != nil || f != x.e {
			t.Errorf("First, Leave of %v: %d, %v; %v, %v", x.r, n, e, l, f)
		}
	}
}

// P8.6
func TestFirstAndLeave(t *testing.T) {
	wrong, longest, mixed := 0, 0, 0
	for _, r := range append(rivers(), largest()) {
		want, is := wantFirst(r)
		n, e := river.First(r)
		if n != want || is != (e == api.OK) || !is && e != api.ErrNone {
			t.Errorf("First of %v: %d, %v, not %d", r, n, e, want)
		}
		leave := wantLeave(r)
		if set, e := river.Leave(r); !slices.Equal(set, leave) || e != api.OK {
			t.Errorf("Leave of %v: %v, %v, not %v", r, set, e, leave)
		}
		if is {
			wrong++
			longest = max(longest, len(leave))
		}
		if is && leave[0] < want {
			mixed++
		}
	}
	if wrong < 60 || longest < 3 || mixed < 10 {
		t.Errorf("only %d rivers have a wrong gauge, %d at most are left out, and %d times an earlier one: they say too little", wrong, longest, mixed)
	}
}

// TestLargest asks all calls about the largest river that is allowed.
func TestLargest(t *testing.T) {
	r := largest()
	truths := truthsOf(r)
	if len(allTruths(r)) != 2000 || len(truths) < 50 {
		t.Fatalf("the river has %d truths of %d", len(truths), len(allTruths(r)))
	}
	said := map[int]int{}
	for day := range 6 {
		n, e := river.Good(r, day)
		said[n]++
		if n != wantGood(r, truths, day) || e != api.OK {
			t.Errorf("Good of %d: %d, %v", day, n, e)
		}
	}
	if len(said) < 3 {
		t.Errorf("the days are of the verdicts %v: they say too little", said)
	}
	for i, plan := range allPlans(r) {
		if i%3 > 0 {
			continue
		}
		if l, e := river.Tank(r, plan); !slices.Equal(l, wantTank(r, truths, plan)) || e != api.OK {
			t.Errorf("Tank of %v: %v, %v", plan, l, e)
		}
		if n, e := river.Lasts(r, plan); n != lastingIn(r, truths, plan, noStorm) || e != api.OK {
			t.Errorf("Lasts of %v: %d, %v", plan, n, e)
		}
		want, is := wantDry(r, truths, plan)
		if n, e := river.Dry(r, plan); n != want || is != (e == api.OK) {
			t.Errorf("Dry of %v: %d, %v", plan, n, e)
		}
	}
	for _, z := range []river.River{r, changed(r, func(r *river.River) { r.Gauges = nil }), changed(r, func(r *river.River) { r.Start, r.Draw = 40, 99 })} {
		truths := truthsOf(z)
		want, ok := wantFewest(z, truths, noStorm)
		if l, e := river.Fewest(z); !slices.Equal(l, want) || ok != (e == api.OK) {
			t.Errorf("Fewest: %v, %v, not %v", l, e, want)
		}
		size, ok := wantNeed(z, truths)
		if n, e := river.Need(z); n != size || ok != (e == api.OK) {
			t.Errorf("Need: %d, %v, not %d", n, e, size)
		}
		for day := range 6 {
			want, ok := wantFewest(z, truths, day)
			if l, e := river.Storm(z, day); !slices.Equal(l, want) || ok != (e == api.OK) {
				t.Errorf("Storm on %d: %v, %v, not %v", day, l, e, want)
			}
		}
	}
	for i := range r.Gauges {
		z := changed(r, func(r *river.River) { r.Gauges[i].Read = to(0, 0) })
		want, is := wantFirst(z)
		n, e := river.First(z)
		if set, f := river.Leave(z); n != want || is != (e == api.OK) || !slices.Equal(set, wantLeave(z)) || f != api.OK {
			t.Errorf("First, Leave: %d, %v; %v, %v", n, e, set, f)
		}
	}
}
