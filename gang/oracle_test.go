package gang_test

import (
	"slices"

	"anil/gang"
	"anil/steep"
)

// What the chapter defines, once more and as directly as possible: by going through everything.

const raw, ripe, spoiled = steep.Raw, steep.Ripe, steep.Spoiled

func list(l ...int) []int { return l }

func to(low, high int) gang.Range { return gang.Range{Lo: low, Hi: high} }

func ranges(l ...int) (out []gang.Range) {
	for i := 0; i < len(l); i += 2 {
		out = append(out, to(l[i], l[i+1]))
	}
	return out
}

func work(men, low, high int) gang.Work { return gang.Work{Men: men, Hours: to(low, high)} }

// warm returns ranges of package steep.
func warm(l ...int) (out []steep.Range) {
	for _, r := range ranges(l...) {
		out = append(out, steep.Range(r))
	}
	return out
}

func smell(in, hour, kind int) steep.Smell { return steep.Smell{Vat: in, Hour: hour, Kind: kind} }

// two is the gang of the chapter's examples, with smells.
func two(l ...steep.Smell) gang.Gang {
	return gang.Gang{
		Steep: steep.Steep{
			Last: 3, Per: 3, Warm: warm(2, 3, 2, 2, 1, 2, 3, 3), Spoil: steep.Range{Lo: 7, Hi: 8},
			Vats:   []steep.Vat{{Begin: 0, Full: steep.Range{Lo: 20, Hi: 22}, Need: 14}, {Begin: 1, Full: steep.Range{Lo: 9, Hi: 9}, Need: 9}},
			Smells: l,
		},
		Men: 3, Close: 5, Works: []gang.Work{work(2, 1, 2), work(1, 2, 2)},
	}
}

// untrue has a steep that has no truth; without smells it would be valid.
func untrue() gang.Gang { return two(smell(0, 1, ripe), smell(0, 3, ripe)) }

// easy has vats that are ripe always, after each hour from 0 to last, one for each work.
func easy(last, men, shut int, works ...gang.Work) gang.Gang {
	g := gang.Gang{Steep: steep.Steep{Last: last, Per: 1, Warm: make([]steep.Range, last+1)}, Men: men, Close: shut, Works: works}
	g.Steep.Vats = make([]steep.Vat, len(works))
	return g
}

// largest has as much of everything as the limits allow, and 2000 truths; its vats are ripe always after most hours.
func largest() gang.Gang {
	return gang.Gang{
		Steep: steep.Steep{
			Last: 5, Per: 9, Warm: warm(8, 9, 5, 9, 6, 9, 0, 4, 9, 9, 9, 9), Spoil: steep.Range{Lo: 46, Hi: 50},
			Vats:   []steep.Vat{{Begin: 0, Full: steep.Range{Lo: 98, Hi: 99}, Need: 60}, {Begin: 0, Full: steep.Range{Lo: 99, Hi: 99}, Need: 70}, {Begin: 0, Full: steep.Range{}, Need: 0}, {Begin: 0, Full: steep.Range{Lo: 81, Hi: 81}, Need: 1}},
			Smells: []steep.Smell{smell(0, 0, ripe), smell(0, 5, ripe), smell(1, 3, ripe), smell(1, 0, ripe), smell(2, 0, ripe)},
		},
		Men: 8, Close: 9, Works: []gang.Work{work(3, 0, 4), work(4, 4, 4), work(5, 2, 4), work(4, 1, 3)},
	}
}

func clone(g gang.Gang) gang.Gang {
	g.Steep.Warm, g.Steep.Vats, g.Steep.Smells, g.Works = slices.Clone(g.Steep.Warm), slices.Clone(g.Steep.Vats), slices.Clone(g.Steep.Smells), slices.Clone(g.Works)
	return g
}

// changed returns the gang after the change.
func changed(g gang.Gang, change func(g *gang.Gang)) gang.Gang {
	g = clone(g)
	change(&g)
	return g
}

// men returns the gang of the examples with other Men.
func men(n int) gang.Gang { return changed(two(), func(g *gang.Gang) { g.Men = n }) }

// with returns the gang with more smells behind its own.
func with(g gang.Gang, more ...steep.Smell) gang.Gang {
	return changed(g, func(g *gang.Gang) { g.Steep.Smells = append(g.Steep.Smells, more...) })
}

// allChoices returns all lists with one number of each range, lexicographically.
func allChoices(l []gang.Range) [][]int {
	out := [][]int{{}}
	for _, r := range l {
		var next [][]int
		for _, c := range out {
			for n := r.Lo; n <= r.Hi; n++ {
				next = append(next, append(slices.Clone(c), n))
			}
		}
		out = next
	}
	return out
}

// allPlans returns all plans, lexicographically.
func allPlans(g gang.Gang) [][]int {
	var hours []gang.Range
	for _, v := range g.Steep.Vats {
		hours = append(hours, to(v.Begin, g.Steep.Last))
	}
	return allChoices(hours)
}

// allHours returns all lists of numbers of hours.
func allHours(g gang.Gang) [][]int {
	var hours []gang.Range
	for _, x := range g.Works {
		hours = append(hours, x.Hours)
	}
	return allChoices(hours)
}

// hoursOfWork returns the hours of the work of a vat that is let down after the hour.
func hoursOfWork(hour, number int) (out []int) {
	for i := 1; i <= number; i++ {
		out = append(out, hour+i)
	}
	return out
}

// isAfterClose reports whether some hour of a work of the vats is after Close.
func isAfterClose(g gang.Gang, vats, plan, hours []int) bool {
	for _, v := range vats {
		for _, h := range hoursOfWork(plan[v], hours[v]) {
			if h > g.Close {
				return true
			}
		}
	}
	return false
}

// menIn returns how many men are at work in the hour, for the vats.
func menIn(g gang.Gang, vats, plan, hours []int, hour int) int {
	sum := 0
	for _, v := range vats {
		if slices.Contains(hoursOfWork(plan[v], hours[v]), hour) {
			sum += g.Works[v].Men
		}
	}
	return sum
}

// suffice reports whether the men suffice for the vats, with these numbers of hours.
func suffice(g gang.Gang, vats, plan, hours []int) bool {
	if isAfterClose(g, vats, plan, hours) {
		return false
	}
	for h := range 20 {
		if menIn(g, vats, plan, hours, h) > g.Men {
			return false
		}
	}
	return true
}

// ripeness says of each vat after which hours it is ripe always.
type ripeness [][]bool

func ripenessOf(g gang.Gang) (out ripeness) {
	for v := range g.Steep.Vats {
		is := make([]bool, g.Steep.Last+1)
		for h := g.Steep.Vats[v].Begin; h <= g.Steep.Last; h++ {
			n, _ := steep.Right(g.Steep, v, h)
			is[h] = n == steep.Always
		}
		out = append(out, is)
	}
	return out
}

// wantLate returns the first of the vats that is not ripe always after its hour; false if there is none.
func wantLate(r ripeness, vats, plan []int) (int, bool) {
	for _, v := range vats {
		if !r[v][plan[v]] {
			return v, true
		}
	}
	return 0, false
}

// isSure reports whether the plan is a sure one of the vats alone.
func isSure(g gang.Gang, r ripeness, vats, plan []int) bool {
	if _, late := wantLate(r, vats, plan); late {
		return false
	}
	for _, hours := range allHours(g) {
		if !suffice(g, vats, plan, hours) {
			return false
		}
	}
	return true
}

// wantDone returns the hour in which the plan is done.
func wantDone(g gang.Gang, plan []int) int {
	last := 0
	for _, hours := range allHours(g) {
		for v, hour := range plan {
			for _, h := range append(list(hour), hoursOfWork(hour, hours[v])...) {
				last = max(last, h)
			}
		}
	}
	return last
}

func everyVat(g gang.Gang) (out []int) {
	for v := range g.Works {
		out = append(out, v)
	}
	return out
}

// surePlans returns all sure plans.
func surePlans(g gang.Gang) (out [][]int) {
	r := ripenessOf(g)
	for _, plan := range allPlans(g) {
		if isSure(g, r, everyVat(g), plan) {
			out = append(out, plan)
		}
	}
	return out
}

// wantBest returns the best plan; false if there is none.
func wantBest(g gang.Gang) (best []int, done int, ok bool) {
	for _, plan := range surePlans(g) {
		if n := wantDone(g, plan); !ok || n < done {
			best, done, ok = plan, n, true
		}
	}
	return best, done, ok
}

// wantFewest returns the fewest men; false if there are none.
func wantFewest(g gang.Gang) (int, bool) {
	for g.Men = 0; g.Men <= 9; g.Men++ {
		if len(surePlans(g)) > 0 {
			return g.Men, true
		}
	}
	return 0, false
}

// canBeLeft reports whether there is a sure plan of the vats alone that are not in the list.
func canBeLeft(g gang.Gang, r ripeness, left []int) bool {
	var others []int
	for v := range g.Works {
		if !slices.Contains(left, v) {
			others = append(others, v)
		}
	}
	return slices.ContainsFunc(allPlans(g), func(plan []int) bool { return isSure(g, r, others, plan) })
}

// allSets returns all increasing lists of vats, the shorter ones first, those as long lexicographically.
func allSets(vats int) (out [][]int) {
	for bits := range 1 << vats {
		set := []int{}
		for i := range vats {
			if bits>>i&1 == 1 {
				set = append(set, i)
			}
		}
		out = append(out, set)
	}
	slices.SortFunc(out, func(a, b []int) int {
		if len(a) != len(b) {
			return len(a) - len(b)
		}
		return slices.Compare(a, b)
	})
	return out
}

func wantLeft(g gang.Gang) []int {
	r := ripenessOf(g)
	for _, set := range allSets(len(g.Works)) {
		if canBeLeft(g, r, set) {
			return set
		}
	}
	return nil
}

// dice makes numbers that look mixed, and are the same whenever the tests run.
type dice struct{ state uint64 }

// roll returns a number from low to high.
func (d *dice) roll(low, high int) int {
	d.state = d.state*6364136223846793005 + 1442695040888963407
	return low + int(d.state>>33)%(high-low+1)
}

// gangs returns small gangs of all shapes; about half of them have a sure plan.
func gangs() (out []gang.Gang) {
	d := &dice{state: 1}
	for i := range 150 {
		out = append(out, mixedGang(d, i%5, i/5%5))
	}
	// Some whose men are what matters.
	for i := range 40 {
		g := easy(i%4, d.roll(3, 5), d.roll(3, 8))
		for range 2 + i%3 {
			g.Works = append(g.Works, work(d.roll(1, 3), d.roll(0, 1), d.roll(1, 2)))
		}
		g.Steep.Vats = make([]steep.Vat, len(g.Works))
		out = append(out, g)
	}
	return out
}

// mixedGang returns a gang with a truth, that has at most 8 of them.
func mixedGang(d *dice, last, vats int) gang.Gang {
	g := gang.Gang{Steep: mixedSteep(d, last, vats), Men: d.roll(1, 6), Close: min(9, last+d.roll(-1, 4))}
	g.Close = max(0, g.Close)
	for range vats {
		low := d.roll(0, 2)
		g.Works = append(g.Works, work(d.roll(0, 3), low, min(4, low+d.roll(0, 2))))
	}
	for range d.roll(0, 2) {
		if vats == 0 {
			continue
		}
		in := d.roll(0, vats-1)
		z := with(g, smell(in, d.roll(g.Steep.Vats[in].Begin, last), d.roll(raw, ripe)))
		if hasTruth(z) {
			g = z
		}
	}
	return g
}

// hasTruth reports whether the gang's steep has a truth.
func hasTruth(g gang.Gang) bool {
	l, e := steep.Leave(g.Steep)
	return e == 0 && len(l) == 0
}

// mixedSteep returns a steep without smells; most of its vats have good hours.
func mixedSteep(d *dice, last, vats int) steep.Steep {
	room := 8
	s := steep.Steep{Last: last, Per: d.roll(1, 4)}
	sum := 0
	for range last + 1 {
		r := d.near(d.roll(0, 3), &room)
		s.Warm = append(s.Warm, r)
		sum += r.Hi
	}
	s.Spoil = d.near(max(0, sum-d.roll(-2, 3)), &room)
	for range vats {
		begin := max(0, d.roll(-last, last))
		if d.roll(0, 2) > 0 {
			begin = 0
		}
		need := s.Per * d.roll(0, max(1, sum/3))
		s.Vats = append(s.Vats, steep.Vat{Begin: begin, Full: d.near(max(0, need+d.roll(-1, 9)), &room), Need: need})
	}
	return s
}

// near returns a range of one number or two from n on, if the room still has them.
func (d *dice) near(n int, room *int) steep.Range {
	if *room > 1 && d.roll(0, 1) == 0 {
		*room /= 2
		return steep.Range{Lo: n, Hi: n + 1}
	}
	return steep.Range{Lo: n, Hi: n}
}
