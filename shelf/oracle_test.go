package shelf_test

import (
	"slices"

	"anil/shelf"
)

// What the chapter defines, once more and as directly as possible: by going through everything.

const always, never, perhaps = shelf.Always, shelf.Never, shelf.Perhaps

func list(l ...int) []int { return l }

func to(low, high int) shelf.Range { return shelf.Range{Lo: low, Hi: high} }

func ranges(l ...int) (out []shelf.Range) {
	for i := 0; i < len(l); i += 2 {
		out = append(out, to(l[i], l[i+1]))
	}
	return out
}

func board(room, draft int) shelf.Board { return shelf.Board{Room: room, Draft: draft} }

func cake(come, low, high, keep int) shelf.Cake {
	return shelf.Cake{Come: come, Water: to(low, high), Keep: keep}
}

func weight(of, day, low, high int) shelf.Weight {
	return shelf.Weight{Cake: of, Day: day, Water: to(low, high)}
}

func truthOf(air, water []int) shelf.Truth { return shelf.Truth{Air: air, Water: water} }

// two is the loft of the chapter's examples, with weights: it has two cakes.
func two(l ...shelf.Weight) shelf.Loft {
	return shelf.Loft{
		Last: 3, Air: ranges(2, 3, 1, 1, 2, 4, 3, 3),
		Shelves: []shelf.Board{board(1, 2), board(2, 0)},
		Cakes:   []shelf.Cake{cake(0, 6, 7, 3), cake(1, 5, 5, 3)},
		Put:     list(0, 1),
		Weights: l,
	}
}

// untrue has no truth, though it is valid.
func untrue() shelf.Loft { return two(weight(1, 2, 0, 0), weight(0, 0, 0, 0)) }

// empty has no shelves, no cakes and no weights.
func empty() shelf.Loft { return shelf.Loft{Air: ranges(0, 1)} }

// largest has as much of everything as the limits allow, and 2000 truths; in few of them its weights are right.
func largest() shelf.Loft {
	return shelf.Loft{
		Last: 5, Air: ranges(0, 9, 9, 9, 2, 3, 5, 9, 0, 0, 9, 9),
		Shelves: []shelf.Board{board(5, 0), board(1, 4), board(2, 1)},
		Cakes:   []shelf.Cake{cake(0, 31, 40, 6), cake(5, 9, 9, 1), cake(2, 17, 18, 3), cake(0, 30, 30, 5), cake(4, 0, 0, 6)},
		Put:     list(0, 1, 2, 0, 2),
		Weights: []shelf.Weight{weight(0, 0, 30, 36), weight(0, 5, 0, 4), weight(1, 5, 0, 0), weight(2, 4, 0, 3), weight(3, 3, 0, 5)},
	}
}

func clone(l shelf.Loft) shelf.Loft {
	l.Air, l.Shelves, l.Cakes, l.Put, l.Weights = slices.Clone(l.Air), slices.Clone(l.Shelves), slices.Clone(l.Cakes), slices.Clone(l.Put), slices.Clone(l.Weights)
	return l
}

// changed returns the loft with a change, which leaves the loft itself as it is.
func changed(l shelf.Loft, change func(l *shelf.Loft)) shelf.Loft {
	l = clone(l)
	change(&l)
	return l
}

// with returns the loft with more weights behind its own.
func with(l shelf.Loft, more ...shelf.Weight) shelf.Loft {
	return changed(l, func(l *shelf.Loft) { l.Weights = append(l.Weights, more...) })
}

// without returns the loft without the weights of the list.
func without(l shelf.Loft, out []int) shelf.Loft {
	all := l.Weights
	l = clone(l)
	l.Weights = nil
	for i, x := range all {
		if !slices.Contains(out, i) {
			l.Weights = append(l.Weights, x)
		}
	}
	return l
}

// allChoices returns all lists with one number of each range, lexicographically.
func allChoices(l []shelf.Range) [][]int {
	out := [][]int{{}}
	for _, r := range l {
		var next [][]int
		for _, c := range out {
			for n := r.Lo; n <= r.Hi; n++ {
				next = append(next, append(slices.Clone(c), n))
			}
		}
		out = next
	}
	return out
}

// allTruths returns all truths, whether the weights are right in them or not.
func allTruths(l shelf.Loft) (out []shelf.Truth) {
	var waters []shelf.Range
	for _, c := range l.Cakes {
		waters = append(waters, c.Water)
	}
	for _, air := range allChoices(l.Air) {
		for _, water := range allChoices(waters) {
			out = append(out, truthOf(air, water))
		}
	}
	return out
}

// allLists returns all lists with a shelf for each cake, lexicographically; a shelf can be too full in them.
func allLists(l shelf.Loft) [][]int {
	return allChoices(slices.Repeat(ranges(0, len(l.Shelves)-1), len(l.Cakes)))
}

// hasRoom reports whether no shelf is for more cakes than its Room.
func hasRoom(l shelf.Loft, place []int) bool {
	for s, b := range l.Shelves {
		cakes := 0
		for _, on := range place {
			if on == s {
				cakes++
			}
		}
		if cakes > b.Room {
			return false
		}
	}
	return true
}

// allPlaces returns all placements, lexicographically.
func allPlaces(l shelf.Loft) (out [][]int) {
	for _, place := range allLists(l) {
		if hasRoom(l, place) {
			out = append(out, place)
		}
	}
	return out
}

// waterIn returns the water that is left in the cake, on the shelf, after the day, or before the day after it.
func waterIn(l shelf.Loft, t shelf.Truth, of, on, day int) int {
	if day < l.Cakes[of].Come {
		return t.Water[of]
	}
	return max(0, waterIn(l, t, of, on, day-1)-(t.Air[day]+l.Shelves[on].Draft))
}

// wrongIn returns the weights that are not right in the truth.
func wrongIn(l shelf.Loft, t shelf.Truth) (out []int) {
	for i, x := range l.Weights {
		if n := waterIn(l, t, x.Cake, l.Put[x.Cake], x.Day); n < x.Water.Lo || n > x.Water.Hi {
			out = append(out, i)
		}
	}
	return out
}

func truthsOf(l shelf.Loft) (out []shelf.Truth) {
	for _, t := range allTruths(l) {
		if len(wrongIn(l, t)) == 0 {
			out = append(out, t)
		}
	}
	return out
}

// daysOf returns the days from the cake's Come to Last.
func daysOf(l shelf.Loft, of int) (out []int) {
	for day := l.Cakes[of].Come; day <= l.Last; day++ {
		out = append(out, day)
	}
	return out
}

func wantPlay(l shelf.Loft, place []int, t shelf.Truth) (out [][]int) {
	for i, on := range place {
		var left []int
		for _, day := range daysOf(l, i) {
			left = append(left, waterIn(l, t, i, on, day))
		}
		out = append(out, left)
	}
	return out
}

func wantLeft(l shelf.Loft, truths []shelf.Truth, of, on int) (out []shelf.Range) {
	for _, day := range daysOf(l, of) {
		var all []int
		for _, t := range truths {
			all = append(all, waterIn(l, t, of, on, day))
		}
		out = append(out, to(slices.Min(all), slices.Max(all)))
	}
	return out
}

func wantDry(l shelf.Loft, truths []shelf.Truth, of, on, day int) int {
	dry := 0
	for _, t := range truths {
		if waterIn(l, t, of, on, day) == 0 {
			dry++
		}
	}
	switch dry {
	case len(truths):
		return always
	case 0:
		return never
	}
	return perhaps
}

// onShelves says something of each cake on each shelf.
type onShelves [][]int

// none stands for no sure day.
const none = 99

// sureDays returns the sure days of all cakes on all shelves.
func sureDays(l shelf.Loft, truths []shelf.Truth) (out onShelves) {
	for of := range l.Cakes {
		var days []int
		for on := range l.Shelves {
			sure := none
			for _, day := range slices.Backward(daysOf(l, of)) {
				if wantDry(l, truths, of, on, day) == always {
					sure = day
				}
			}
			days = append(days, sure)
		}
		out = append(out, days)
	}
	return out
}

// wantStuck returns the first cake that may get mouldy; false if there is none.
func wantStuck(l shelf.Loft, sure onShelves, place []int) (int, bool) {
	for i, on := range place {
		if sure[i][on] == none || sure[i][on] > l.Cakes[i].Come+l.Cakes[i].Keep-1 {
			return i, true
		}
	}
	return 0, false
}

// doneAfter returns the day after which a good placement is done.
func doneAfter(sure onShelves, place []int) int {
	last := 0
	for i, on := range place {
		last = max(last, sure[i][on])
	}
	return last
}

// goodPlaces returns all good placements, lexicographically.
func goodPlaces(l shelf.Loft, sure onShelves) (out [][]int) {
	for _, place := range allPlaces(l) {
		if _, stuck := wantStuck(l, sure, place); !stuck {
			out = append(out, place)
		}
	}
	return out
}

// wantBest returns the best placement; false if there is none.
func wantBest(l shelf.Loft, truths []shelf.Truth) (best []int, done int, ok bool) {
	sure := sureDays(l, truths)
	for _, place := range goodPlaces(l, sure) {
		if n := doneAfter(sure, place); !ok || n < done {
			best, done, ok = place, n, true
		}
	}
	return best, done, ok
}

// wantBy returns the first good placement by the day; false if there is none.
func wantBy(l shelf.Loft, truths []shelf.Truth, day int) ([]int, bool) {
	sure := sureDays(l, truths)
	for _, place := range goodPlaces(l, sure) {
		if doneAfter(sure, place) <= day {
			return place, true
		}
	}
	return nil, false
}

// allSets returns all increasing lists of weights, the shorter ones first, those as long lexicographically.
func allSets(weights int) (out [][]int) {
	for bits := range 1 << weights {
		set := []int{}
		for i := range weights {
			if bits>>i&1 == 1 {
				set = append(set, i)
			}
		}
		out = append(out, set)
	}
	slices.SortFunc(out, func(a, b []int) int {
		if len(a) != len(b) {
			return len(a) - len(b)
		}
		return slices.Compare(a, b)
	})
	return out
}

func wantLeave(l shelf.Loft) []int {
	for _, set := range allSets(len(l.Weights)) {
		if len(truthsOf(without(l, set))) > 0 {
			return set
		}
	}
	return nil
}

// wantFirst returns the first wrong weight; false if there is none.
func wantFirst(l shelf.Loft) (int, bool) {
	for n := range l.Weights {
		if len(truthsOf(changed(l, func(l *shelf.Loft) { l.Weights = l.Weights[:n+1] }))) == 0 {
			return n, true
		}
	}
	return 0, false
}

// allWeights returns weights after all days of all cakes, right or not: what is so in some truth, alone and with what is next to it.
func allWeights(l shelf.Loft) (out []shelf.Weight) {
	all := allTruths(l)
	for of := range l.Cakes {
		for _, day := range daysOf(l, of) {
			for _, t := range []shelf.Truth{all[0], all[len(all)/2], all[len(all)-1]} {
				n := waterIn(l, t, of, l.Put[of], day)
				for _, x := range []shelf.Weight{weight(of, day, n, n), weight(of, day, max(0, n-1), n+1)} {
					if !slices.Contains(out, x) && x.Water.Hi <= 40 {
						out = append(out, x)
					}
				}
			}
		}
	}
	return out
}

// dice makes numbers that look mixed, and are the same whenever the tests run.
type dice struct{ state uint64 }

// roll returns a number from low to high.
func (d *dice) roll(low, high int) int {
	d.state = d.state*6364136223846793005 + 1442695040888963407
	return low + int(d.state>>33)%(high-low+1)
}

// around returns a range of one to three numbers from n on, to most, of a size that the room still has.
func (d *dice) around(n, most int, room *int) shelf.Range {
	low := min(max(0, n), most)
	high := min(low+d.roll(0, 2), most)
	for high > low && high-low+1 > *room {
		high--
	}
	*room /= high - low + 1
	return to(low, high)
}

// lofts returns small lofts of all shapes; with about a third of them a weight or more is false.
func lofts() (out []shelf.Loft) {
	d := &dice{state: 1}
	for i := range 240 {
		cakes := list(1, 2, 3, 2, 3, 0, 2, 3, 4, 1, 2, 5)[i/6%12]
		l := mixedLoft(d, i%6, cakes)
		for range i % 5 {
			l.Weights = append(l.Weights, mixedWeights(d, l)...)
		}
		out = append(out, l)
	}
	// Some with weights that contradict each other in many ways.
	for range 30 {
		l := mixedLoft(d, 3, 3)
		all := allWeights(l)
		for range 5 {
			l.Weights = append(l.Weights, all[d.roll(0, len(all)-1)])
		}
		out = append(out, l)
	}
	return append(out, empty())
}

// mixedLoft returns a loft without weights that has at most 24 truths; most of its cakes get dry on some shelf.
func mixedLoft(d *dice, last, cakes int) shelf.Loft {
	room := 24
	l := shelf.Loft{Last: last}
	sum := 0
	for range last + 1 {
		n := d.roll(0, 4)
		l.Air = append(l.Air, d.around(n, 9, &room))
		sum += n
	}
	for range d.roll(min(1, cakes), 3) {
		l.Shelves = append(l.Shelves, board(d.roll(0, 5)/2+d.roll(0, 1), d.roll(0, 6)*2/3))
	}
	if len(l.Shelves) > 0 {
		l.Shelves[d.roll(0, len(l.Shelves)-1)].Room = min(5, max(1, cakes+d.roll(-1, 0)))
	}
	for range cakes {
		come := max(0, d.roll(-2*last-1, last))
		days := last - come + 1
		l.Cakes = append(l.Cakes, shelf.Cake{Come: come, Water: d.around(d.roll(0, 2)+days*d.roll(0, sum/(last+1)+2), 40, &room), Keep: min(6, max(1, days-d.roll(-1, 1)))})
	}
	all := allPlaces(l)
	if len(all) == 0 { // There is too little room for so many cakes.
		l.Shelves[0].Room = 5
		all = allPlaces(l)
	}
	l.Put = all[d.roll(0, len(all)-1)]
	return l
}

// mixedWeights returns one weight that is mostly right in the same truth, or none if there is no cake.
func mixedWeights(d *dice, l shelf.Loft) []shelf.Weight {
	if len(l.Cakes) == 0 {
		return nil
	}
	all := allTruths(l)
	of := d.roll(0, len(l.Cakes)-1)
	day := d.roll(l.Cakes[of].Come, l.Last)
	n := waterIn(l, all[len(all)/2], of, l.Put[of], day)
	if d.roll(0, 2) == 0 {
		n += d.roll(-2, 4)
	}
	low := min(40, max(0, n-d.roll(0, 1)))
	return []shelf.Weight{weight(of, day, low, min(40, max(low, n+d.roll(0, 1))))}
}
