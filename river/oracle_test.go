package river_test

import (
	"slices"

	"anil/river"
)

// What the chapter defines, once more and as directly as possible: by going through everything.

const always, never, perhaps = river.Always, river.Never, river.Perhaps

func list(l ...int) []int { return l }

func to(low, high int) river.Range { return river.Range{Lo: low, Hi: high} }

func ranges(l ...int) (out []river.Range) {
	for i := 0; i < len(l); i += 2 {
		out = append(out, to(l[i], l[i+1]))
	}
	return out
}

func salt(day, low, high int) river.Gauge { return river.Gauge{Day: day, Read: to(low, high)} }

func mud(day, low, high int) river.Gauge {
	return river.Gauge{Day: day, Mud: true, Read: to(low, high)}
}

func truthOf(salt, mud []int) river.Truth { return river.Truth{Salt: salt, Mud: mud} }

// four is the river of the chapter's examples, with gauges: it has four days.
func four(l ...river.Gauge) river.River {
	return river.River{
		Last: 3,
		Salt: ranges(2, 3, 3, 4, 0, 0, 5, 6), Mud: ranges(0, 0, 1, 1, 4, 5, 0, 0), Sweet: 3, Clear: 4,
		Size: 10, Start: 3, Draw: 6, Use: list(3, 3, 2, 1),
		Gauges: l,
	}
}

// untrue has no truth, though it is valid.
func untrue() river.River { return four(salt(1, 4, 4), salt(1, 0, 3)) }

// still has one day, on which nothing is drawn or used.
func still() river.River {
	return river.River{Salt: ranges(0, 0), Mud: ranges(0, 0), Use: list(0)}
}

// largest has as much of everything as the limits allow, and 2000 truths; in some of them its gauges are right.
func largest() river.River {
	return river.River{
		Last: 5,
		Salt: ranges(0, 9, 5, 6, 3, 7, 9, 9, 1, 1, 4, 4), Mud: ranges(0, 0, 2, 3, 9, 9, 0, 4, 5, 5, 4, 5), Sweet: 5, Clear: 9,
		Size: 99, Start: 60, Draw: 60, Use: list(30, 20, 10, 9, 5, 3),
		Gauges: []river.Gauge{salt(0, 2, 8), mud(5, 4, 5), salt(2, 3, 6), mud(3, 1, 9), salt(0, 4, 9)},
	}
}

func clone(r river.River) river.River {
	r.Salt, r.Mud, r.Use, r.Gauges = slices.Clone(r.Salt), slices.Clone(r.Mud), slices.Clone(r.Use), slices.Clone(r.Gauges)
	return r
}

// changed returns the river with a change, which leaves the river itself as it is.
func changed(r river.River, change func(r *river.River)) river.River {
	r = clone(r)
	change(&r)
	return r
}

// with returns the river with more gauges behind its own.
func with(r river.River, more ...river.Gauge) river.River {
	return changed(r, func(r *river.River) { r.Gauges = append(r.Gauges, more...) })
}

// without returns the river without the gauges of the list.
func without(r river.River, out []int) river.River {
	all := r.Gauges
	r = clone(r)
	r.Gauges = nil
	for i, g := range all {
		if !slices.Contains(out, i) {
			r.Gauges = append(r.Gauges, g)
		}
	}
	return r
}

// allChoices returns all lists with one number of each range, lexicographically.
func allChoices(l []river.Range) [][]int {
	out := [][]int{{}}
	for _, r := range l {
		var next [][]int
		for _, c := range out {
			for n := r.Lo; n <= r.Hi; n++ {
				next = append(next, append(slices.Clone(c), n))
			}
		}
		out = next
	}
	return out
}

// allTruths returns all truths, whether the gauges are right in them or not.
func allTruths(r river.River) (out []river.Truth) {
	for _, salt := range allChoices(r.Salt) {
		for _, mud := range allChoices(r.Mud) {
			out = append(out, truthOf(salt, mud))
		}
	}
	return out
}

// wrongIn returns the gauges that are not right in the truth.
func wrongIn(r river.River, t river.Truth) (out []int) {
	for i, g := range r.Gauges {
		n := t.Salt[g.Day]
		if g.Mud {
			n = t.Mud[g.Day]
		}
		if n < g.Read.Lo || n > g.Read.Hi {
			out = append(out, i)
		}
	}
	return out
}

func truthsOf(r river.River) (out []river.Truth) {
	for _, t := range allTruths(r) {
		if len(wrongIn(r, t)) == 0 {
			out = append(out, t)
		}
	}
	return out
}

func isGoodIn(r river.River, t river.Truth, day int) bool {
	return t.Salt[day] <= r.Sweet && t.Mud[day] <= r.Clear
}

// noStorm stands for the day of no storm.
const noStorm = -1

// tankIn returns what is in the tank after each day, and the days on which water is lacking, with a storm on a day.
func tankIn(r river.River, plan []int, t river.Truth, storm int) (after, lacking []int) {
	in := r.Start
	for day := 0; day <= r.Last; day++ {
		if day == storm {
			in = 0
		}
		if slices.Contains(plan, day) && isGoodIn(r, t, day) {
			in += r.Draw
		}
		if in > r.Size {
			in = r.Size
		}
		in -= r.Use[day]
		if in < 0 {
			lacking = append(lacking, day)
			in = 0
		}
		after = append(after, in)
	}
	return after, lacking
}

// verdictOf says what it means that something is so in some truths of all.
func verdictOf(some, all int) int {
	switch some {
	case all:
		return always
	case 0:
		return never
	}
	return perhaps
}

func wantGood(r river.River, truths []river.Truth, day int) int {
	good := 0
	for _, t := range truths {
		if isGoodIn(r, t, day) {
			good++
		}
	}
	return verdictOf(good, len(truths))
}

func wantTank(r river.River, truths []river.Truth, plan []int) (out []river.Range) {
	for day := 0; day <= r.Last; day++ {
		var all []int
		for _, t := range truths {
			after, _ := tankIn(r, plan, t, noStorm)
			all = append(all, after[day])
		}
		out = append(out, to(slices.Min(all), slices.Max(all)))
	}
	return out
}

// lastingIn returns whether the tank lasts, with a storm on a day.
func lastingIn(r river.River, truths []river.Truth, plan []int, storm int) int {
	lasting := 0
	for _, t := range truths {
		if _, lacking := tankIn(r, plan, t, storm); len(lacking) == 0 {
			lasting++
		}
	}
	return verdictOf(lasting, len(truths))
}

// wantDry returns the first day on which water is lacking; false if there is none.
func wantDry(r river.River, truths []river.Truth, plan []int) (int, bool) {
	for day := 0; day <= r.Last; day++ {
		for _, t := range truths {
			if _, lacking := tankIn(r, plan, t, noStorm); slices.Contains(lacking, day) {
				return day, true
			}
		}
	}
	return 0, false
}

// allSets returns all increasing lists of numbers from 0 to below most, the shorter ones first, those as long lexicographically.
func allSets(most int) (out [][]int) {
	for bits := range 1 << most {
		set := []int{}
		for i := range most {
			if bits>>i&1 == 1 {
				set = append(set, i)
			}
		}
		out = append(out, set)
	}
	slices.SortFunc(out, func(a, b []int) int {
		if len(a) != len(b) {
			return len(a) - len(b)
		}
		return slices.Compare(a, b)
	})
	return out
}

// allPlans returns all plans, the shorter ones first, those as long lexicographically.
func allPlans(r river.River) [][]int { return allSets(r.Last + 1) }

// wantFewest returns the fewest days with a storm on a day; false if there are none.
func wantFewest(r river.River, truths []river.Truth, storm int) ([]int, bool) {
	for _, plan := range allPlans(r) {
		if lastingIn(r, truths, plan, storm) == always {
			return plan, true
		}
	}
	return nil, false
}

// wantNeed returns the smallest tank; false if there is none.
func wantNeed(r river.River, truths []river.Truth) (int, bool) {
	for size := r.Start; size <= 99; size++ {
		r.Size = size
		if _, ok := wantFewest(r, truths, noStorm); ok {
			return size, true
		}
	}
	return 0, false
}

func wantLeave(r river.River) []int {
	for _, set := range allSets(len(r.Gauges)) {
		if len(truthsOf(without(r, set))) > 0 {
			return set
		}
	}
	return nil
}

// wantFirst returns the first wrong gauge; false if there is none.
func wantFirst(r river.River) (int, bool) {
	for n := range r.Gauges {
		if len(truthsOf(changed(r, func(r *river.River) { r.Gauges = r.Gauges[:n+1] }))) == 0 {
			return n, true
		}
	}
	return 0, false
}

// allGauges returns gauges of all days, right or not: what is so in some truth, alone and with what is next to it, and what is beside it.
func allGauges(r river.River) (out []river.Gauge) {
	add := func(day int, isMud bool, n, m int) {
		for _, read := range ranges(n, n, max(0, n-1), min(9, n+1), min(9, m+1), 9) {
			if g := (river.Gauge{Day: day, Mud: isMud, Read: read}); !slices.Contains(out, g) {
				out = append(out, g)
			}
		}
	}
	for day := 0; day <= r.Last; day++ {
		for _, n := range list(r.Salt[day].Lo, r.Salt[day].Hi) {
			add(day, false, n, r.Salt[day].Hi)
		}
		for _, n := range list(r.Mud[day].Lo, r.Mud[day].Hi) {
			add(day, true, n, r.Mud[day].Hi)
		}
	}
	return out
}

// dice makes numbers that look mixed, and are the same whenever the tests run.
type dice struct{ state uint64 }

// roll returns a number from low to high.
func (d *dice) roll(low, high int) int {
	d.state = d.state*6364136223846793005 + 1442695040888963407
	return low + int(d.state>>33)%(high-low+1)
}

// around returns a range of one to three numbers from n on, to 9, of a size that the room still has.
func (d *dice) around(n int, room *int) river.Range {
	low := min(max(0, n), 9)
	high := min(low+d.roll(0, 2), 9)
	for high > low && high-low+1 > *room {
		high--
	}
	*room /= high - low + 1
	return to(low, high)
}

// rivers returns small rivers of all shapes; with about a third of them a gauge or more is false.
func rivers() (out []river.River) {
	d := &dice{state: 1}
	for i := range 300 {
		r := mixedRiver(d, i%6)
		for range i % 5 {
			r.Gauges = append(r.Gauges, mixedGauge(d, r))
		}
		out = append(out, r)
	}
	// Some with gauges that contradict each other in many ways, most of them about the salt of the day 0.
	for i := range 40 {
		r := mixedRiver(d, i%3)
		r.Salt[0] = to(2, 5)
		r.Gauges = []river.Gauge{mixedGauge(d, r)}
		for range 4 {
			n := d.roll(2, 5)
			r.Gauges = append(r.Gauges, salt(0, n, min(5, n+d.roll(0, 1))))
		}
		out = append(out, r)
	}
	return append(out, still())
}

// mixedRiver returns a river without gauges that has at most 24 truths; the tank lasts with some plan in most of them.
func mixedRiver(d *dice, last int) river.River {
	room := 24
	r := river.River{Last: last, Sweet: d.roll(1, 6), Clear: d.roll(2, 7)}
	most := 0
	for range last + 1 {
		r.Salt = append(r.Salt, d.around(r.Sweet-d.roll(-1, 3), &room))
		r.Mud = append(r.Mud, d.around(r.Clear-d.roll(-1, 6)*2/3, &room))
		r.Use = append(r.Use, d.roll(0, 5)*d.roll(1, 2))
		most = max(most, r.Use[len(r.Use)-1])
	}
	// Some days come first that are better than those behind them, so that the tank is worth something.
	r.Salt[0].Lo = max(0, r.Salt[0].Lo-2)
	r.Salt[0].Hi = r.Salt[0].Lo
	r.Draw = d.roll(most, 3*most+3)
	r.Size = d.roll(most, most+r.Draw)
	r.Start = min(r.Size, d.roll(0, 2*most))
	return r
}

// mixedGauge returns a gauge that is mostly right in the same truth.
func mixedGauge(d *dice, r river.River) river.Gauge {
	all := allTruths(r)
	t := all[len(all)/2]
	g := river.Gauge{Day: d.roll(0, r.Last), Mud: d.roll(0, 1) == 1}
	n := t.Salt[g.Day]
	if g.Mud {
		n = t.Mud[g.Day]
	}
	if d.roll(0, 3) == 0 {
		n = max(0, n+d.roll(-2, 4))
	}
	low := min(9, max(0, n-d.roll(0, 1)))
	g.Read = to(low, min(9, max(low, n+d.roll(0, 1))))
	return g
}
