package shelf

import (
	"iter"
	"slices"

	"anil/api"
)

// airs has the air of each day, and 0 for the days that the loft lacks.
type airs [api.MaxShelfLast + 1]int

// waters has the water of each cake at first, and 0 for the cakes that the loft lacks.
type waters [api.MaxShelfCakes]int

// truth is a Truth in arrays, so that a copy of it shares no memory with it.
type truth struct {
	air   airs
	water waters
}

func (t truth) is(other truth) bool { return t.air == other.air && t.water == other.water }

// spot is a cake on a shelf.
type spot struct{ cake, shelf int }

// spots returns the cakes on their shelves, as they are placed.
func spots(place []int) []spot {
	list := make([]spot, len(place))
	for cake, shelf := range place {
		list[cake] = spot{cake, shelf}
	}
	return list
}

// work is a loft at work, with its truths, and the sure days that cakes have on shelves, if it was opened.
type work struct {
	Loft
	truths []truth
	sure   map[spot]int
}

// open checks the loft, then whether what is asked about is in range, and at last finds the truths: there must be one.
func open(l Loft, areInRange ...func(w work) bool) (work, api.Errno) {
	if e := CheckLoft(l); e != api.OK {
		return work{}, e
	}
	w := work{Loft: l}
	for _, isInRange := range areInRange {
		if !isInRange(w) {
			return work{}, api.ErrRange
		}
	}
	for t := range w.allTruths() {
		if len(w.wrongWeights(t)) == 0 {
			w.truths = append(w.truths, t)
		}
	}
	if len(w.truths) == 0 {
		return work{}, api.ErrFalse
	}
	w.sure = w.sureDays()
	return w, api.OK
}

// isValid reports whether the loft is valid, except for its sizes.
func (w work) isValid() bool {
	return 0 <= w.Last && len(w.Air) == w.Last+1 && every(w.Air, isAir) && every(w.Shelves, isBoard) &&
		every(w.Cakes, w.isCake) && w.isPlacement(w.Put) && every(w.Weights, w.isWeight)
}

func isAir(r Range) bool { return r.isUpTo(api.MaxShelfAir) }

func isBoard(b Board) bool {
	return Range{0, api.MaxShelfCakes}.has(b.Room) && Range{0, api.MaxShelfDraft}.has(b.Draft)
}

func (w work) isCake(c Cake) bool {
	return Range{0, w.Last}.has(c.Come) && c.Water.isUpTo(api.MaxShelfWater) && Range{1, api.MaxShelfKeep}.has(c.Keep)
}

func (w work) isWeight(x Weight) bool {
	return w.hasCake(x.Cake) && w.hasDay(x.Cake, x.Day) && x.Water.isUpTo(api.MaxShelfWater)
}

func (w work) hasCake(cake int) bool { return 0 <= cake && cake < len(w.Cakes) }

// hasDay reports whether the day is from the cake's Come to Last. There must be such a cake.
func (w work) hasDay(cake, day int) bool { return Range{w.Cakes[cake].Come, w.Last}.has(day) }

func (w work) isPlacement(place []int) bool {
	var cakes [api.MaxShelfShelves]int
	for _, shelf := range place {
		if shelf < 0 || len(w.Shelves) <= shelf || cakes[shelf] == w.Shelves[shelf].Room {
			return false
		}
		cakes[shelf]++
	}
	return len(place) == len(w.Cakes)
}

// isUpTo reports whether r is a range of numbers from 0 to most.
func (r Range) isUpTo(most int) bool { return 0 <= r.Lo && r.Lo <= r.Hi && r.Hi <= most }

func (r Range) has(n int) bool { return r.Lo <= n && n <= r.Hi }

// unknown is a number of a truth, with the range that it is in.
type unknown struct {
	number *int
	in     Range
}

func (u unknown) isIn() bool { return u.in.has(*u.number) }

// unknowns returns all numbers of t, in the order in which they are chosen.
func (w work) unknowns(t *truth) []unknown {
	var list []unknown
	for day, r := range w.Air {
		list = append(list, unknown{&t.air[day], r})
	}
	for cake, c := range w.Cakes {
		list = append(list, unknown{&t.water[cake], c.Water})
	}
	return list
}

// size returns how many truths there are, whether the weights are right in them or not.
func (w work) size() int {
	many := 1
	for _, u := range w.unknowns(&truth{}) {
		many *= u.in.Hi - u.in.Lo + 1
	}
	return many
}

// toTruth makes a truth of t, if it is one, whether the weights are right in it or not.
func (w work) toTruth(t Truth) (made truth, ok bool) {
	if len(t.Air) != len(w.Air) || len(t.Water) != len(w.Cakes) {
		return truth{}, false
	}
	copy(made.air[:], t.Air)
	copy(made.water[:], t.Water)
	if !every(w.unknowns(&made), unknown.isIn) {
		return truth{}, false
	}
	return made, true
}

// allTruths returns all truths, whether the weights are right in them or not.
func (w work) allTruths() iter.Seq[truth] {
	return func(yield func(truth) bool) {
		var t truth
		list := w.unknowns(&t)
		var choose func(next int) bool
		choose = func(next int) bool {
			if next == len(list) {
				return yield(t)
			}
			u := list[next]
			for n := u.in.Lo; n <= u.in.Hi; n++ {
				*u.number = n
				if !choose(next + 1) {
					return false
				}
			}
			return true
		}
		choose(0)
	}
}

// left returns the water that is left in the cake on the shelf after the day.
func (w work) left(t truth, s spot, day int) int {
	come := w.Cakes[s.cake].Come
	water := t.water[s.cake]
	for i := range day - come + 1 {
		water = max(0, water-t.air[come+i]-w.Shelves[s.shelf].Draft)
	}
	return water
}

// wrongWeights returns all weights that are not right in the truth.
func (w work) wrongWeights(t truth) []int {
	var wrong []int
	for i, x := range w.Weights {
		if !x.Water.has(w.left(t, spot{x.Cake, w.Put[x.Cake]}, x.Day)) {
			wrong = append(wrong, i)
		}
	}
	return wrong
}

// quantity is what is so, in a truth, of a cake on a shelf after a day.
type quantity struct {
	of func(w work, t truth, s spot, day int) int
}

// daily returns the quantity after each day from the cake's Come to Last.
func (q quantity) daily(w work, t truth, s spot) []int {
	come := w.Cakes[s.cake].Come
	list := make([]int, w.Last-come+1)
	for i := range w.Last - come + 1 {
		list[i] = q.of(w, t, s, come+i)
	}
	return list
}

// bounds returns the range of the quantity in all truths, after each day from the cake's Come to Last. There must be a truth.
func (q quantity) bounds(w work, s spot) []Range {
	var list []Range
	for _, n := range q.daily(w, w.truths[0], s) {
		list = append(list, Range{n, n})
	}
	for _, t := range w.truths[1:] {
		for i, n := range q.daily(w, t, s) {
			list[i] = Range{minimum(list[i].Lo, n), max(list[i].Hi, n)}
		}
	}
	return list
}

// dryness returns whether a cake is dry in which so much water is left.
func dryness(left Range) int {
	switch {
	case left.Hi == 0:
		return Always
	case left.Lo > 0:
		return Never
	}
	return Perhaps
}

// sureDays returns the sure day of each cake on each shelf on which it has one. There must be a truth.
func (w work) sureDays() map[spot]int {
	sure := map[spot]int{}
	for cake, c := range w.Cakes {
		for shelf := range w.Shelves {
			left := quantity{work.left}.bounds(w, spot{cake, shelf})
			isDry := func(r Range) bool { return dryness(r) == Always }
			if i := slices.IndexFunc(left, isDry); i >= 0 {
				sure[spot{cake, shelf}] = c.Come + i
			}
		}
	}
	return sure
}

// isKept reports whether the cake surely does not get mouldy on the shelf.
func (w work) isKept(s spot) bool {
	c := w.Cakes[s.cake]
	day, ok := w.sure[s]
	return ok && day <= c.Come+c.Keep-1
}

// isGoodBy reports whether the placement is good, and done after the day or before.
func (w work) isGoodBy(place []int, day int) bool {
	if day < 0 { // Without cakes, too, it is done after the day 0.
		return false
	}
	return every(spots(place), func(s spot) bool { return w.isKept(s) && w.sure[s] <= day })
}

// firstBy returns the first good placement that is done after the day or before, if there is one.
func (w work) firstBy(day int) (first []int, ok bool) {
	for place := range w.placements() {
		if w.isGoodBy(place, day) {
			return place, true
		}
	}
	return nil, false
}

// placements returns all placements, lexicographically.
func (w work) placements() iter.Seq[[]int] {
	return func(yield func([]int) bool) {
		place := make([]int, len(w.Cakes))
		var choose func(cake int) bool
		choose = func(cake int) bool {
			if cake == len(place) {
				return yield(slices.Clone(place))
			}
		shelves:
			for shelf, b := range w.Shelves {
				place[cake] = shelf
				cakes := 0
				for _, other := range place[:cake+1] {
					if other == shelf {
						cakes++
					}
					if cakes > b.Room {
						continue shelves
					}
				}
				if !choose(cake + 1) {
					return false
				}
			}
			return true
		}
		choose(0)
	}
}

// wrongOfAll returns for each truth the weights that are not right in it.
func (w work) wrongOfAll() [][]int {
	var all [][]int
	for t := range w.allTruths() {
		all = append(all, w.wrongWeights(t))
	}
	return all
}

func (w work) smallestSet() []int {
	all := w.wrongOfAll()
	var smallest []int
search:
	for many := range len(w.Weights) + 1 {
		for set := range allSets(len(w.Weights), many) {
			isLeft := func(weight int) bool { return slices.Contains(set, weight) }
			for _, wrong := range all {
				if every(wrong, isLeft) {
					smallest = set
					break search
				}
			}
		}
	}
	return smallest
}

// allSets returns all increasing lists of so many numbers from 0 to below most, lexicographically.
func allSets(most, many int) iter.Seq[[]int] {
	return func(yield func([]int) bool) {
		var set []int
		var choose func(from int) bool
		choose = func(from int) bool {
			if len(set) == many {
				return yield(slices.Clone(set))
			}
			for n := from; n < most; n++ {
				set = append(set, n)
				if !choose(n + 1) {
					return false
				}
				set = set[:len(set)-1]
			}
			return true
		}
		choose(0)
	}
}

func every[T any](list []T, ok func(T) bool) bool {
	for _, x := range list {
		if !ok(x) {
			return false
		}
	}
	return true
}

func minimum(first int, others ...int) int {
	for _, n := range others {
		first = min(first, n)
	}
	return first
}
