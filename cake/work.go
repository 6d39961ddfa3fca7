package cake

import (
	"iter"
	"slices"

	"anil/api"
)

// shades has the shade of each boiling, and 0 for the boilings that the cut lacks.
type shades [api.MaxCakeBoilings]int

// boilings has the boiling of each cake, and 0 for the cakes that the cut lacks.
type boilings [api.MaxCakeCakes]int

// lot is a Lot in arrays, so that a copy of it shares no memory with it.
type lot struct {
	shades shades
	of     boilings
}

func (l lot) is(other lot) bool { return l.of == other.of && l.shades == other.shades }

// work is a cut at work, with its truths if it was opened.
type work struct {
	Cut
	truths []lot
}

// open checks the cut, then what else must be so, and at last finds the truths: there must be one.
func open(c Cut, checks ...func(w work) api.Errno) (work, api.Errno) {
	if e := CheckCut(c); e != api.OK {
		return work{}, e
	}
	w := work{Cut: c}
	for _, check := range checks {
		if e := check(w); e != api.OK {
			return work{}, e
		}
	}
	for l := range w.lots() {
		if w.areCountsRight(l) && len(w.wrongLooks(l)) == 0 {
			w.truths = append(w.truths, l)
		}
	}
	if len(w.truths) == 0 {
		return work{}, api.ErrFalse
	}
	return w, api.OK
}

// isValid reports whether the cut is valid, except for its sizes.
func (w work) isValid() bool {
	return Range{0, api.MaxCakeEye}.has(w.Eye) && every(w.Boilings, w.isBoiling) && every(w.Cakes, w.isCake)
}

func (work) isBoiling(b Boiling) bool {
	return b.Shade.isUpTo(api.MaxCakeShade) && Range{0, api.MaxCakeGrain}.has(b.Grain) &&
		b.Cut.isUpTo(api.MaxCakeCakes) && Range{0, api.MaxCakeGrower}.hasRising(b.Plants)
}

func (work) isCake(x Cake) bool {
	return Range{0, api.MaxCakeShade}.has(x.Seen) && Range{0, api.MaxCakeGrain}.hasRising(x.Grains)
}

func (w work) hasBoiling(boiling int) bool { return 0 <= boiling && boiling < len(w.Boilings) }

func (w work) hasCake(cake int) bool { return 0 <= cake && cake < len(w.Cakes) }

// isUpTo reports whether r is a range of numbers from 0 to most.
func (r Range) isUpTo(most int) bool { return 0 <= r.Lo && r.Lo <= r.Hi && r.Hi <= most }

func (r Range) has(n int) bool { return r.Lo <= n && n <= r.Hi }

// hasRising reports whether the list rises, and all its numbers are in r.
func (r Range) hasRising(list []int) bool {
	for i := 1; i < len(list); i++ {
		if list[i] <= list[i-1] {
			return false
		}
	}
	return every(list, r.has)
}

func (r Range) size() int { return r.Hi - r.Lo + 1 }

// size returns how many lots there are.
func (w work) size() int {
	many := 1
	for _, b := range w.Boilings {
		many *= b.Shade.size()
	}
	for range len(w.Cakes) {
		many *= len(w.Boilings)
	}
	return many
}

// toLot makes a lot of l, if it is one, whether the counts and the looks are right in it or not.
func (w work) toLot(l Lot) (made lot, ok bool) {
	if len(l.Shades) != len(w.Boilings) || len(l.Of) != len(w.Cakes) || !every(l.Of, w.hasBoiling) {
		return lot{}, false
	}
	for b, n := range l.Shades {
		if !w.Boilings[b].Shade.has(n) {
			return lot{}, false
		}
	}
	copy(made.shades[:], l.Shades)
	copy(made.of[:], l.Of)
	return made, true
}

// lots returns all lots, whether the counts and the looks are right in them or not.
func (w work) lots() iter.Seq[lot] {
	return func(yield func(lot) bool) {
		var l lot
		var choose func(cake int) bool
		choose = func(cake int) bool {
			if cake == len(w.Cakes) {
				return yield(l)
			}
			for b := range len(w.Boilings) {
				l.of[cake] = b
				if !choose(cake + 1) {
					return false
				}
			}
			return true
		}
		for _, s := range w.allShades() {
			l.shades = s
			if !choose(0) {
				return
			}
		}
	}
}

// allShades returns all choices of a shade for each boiling.
func (w work) allShades() []shades {
	all := []shades{{}}
	for b, x := range w.Boilings {
		var next []shades
		for _, s := range all {
			for i := range x.Shade.size() {
				s[b] = x.Shade.Lo + i
				next = append(next, s)
			}
		}
		all = next
	}
	return all
}

// counts returns for each boiling the number of its cakes.
func (w work) counts(l lot) []int {
	list := make([]int, len(w.Boilings))
	for cake := range len(w.Cakes) {
		list[l.of[cake]]++
	}
	return list
}

func (w work) areCountsRight(l lot) bool {
	for b, n := range w.counts(l) {
		if !w.Boilings[b].Cut.has(n) {
			return false
		}
	}
	return true
}

// wrongLooks returns all cakes whose look is not right in the lot.
func (w work) wrongLooks(l lot) []int {
	var wrong []int
	for cake, x := range w.Cakes {
		n := w.tone(l, cake)
		isNear := Range{x.Seen - w.Eye, x.Seen + w.Eye}.has(n)
		if !isNear || !slices.Contains(x.Grains, w.Boilings[l.of[cake]].Grain) {
			wrong = append(wrong, cake)
		}
	}
	return wrong
}

// tone returns the true shade of the cake.
func (w work) tone(l lot, cake int) int { return l.shades[l.of[cake]] }

// pair is two cakes.
type pair struct{ one, other int }

func (p pair) check(w work) api.Errno {
	switch {
	case !w.hasCake(p.one) || !w.hasCake(p.other):
		return api.ErrRange
	case p.one == p.other:
		return api.ErrTwice
	}
	return api.OK
}

// apart returns how far the true shades of the two cakes are apart.
func (w work) apart(l lot, p pair) int {
	one, other := w.tone(l, p.one), w.tone(l, p.other)
	return max(one, other) - minimum(one, other)
}

func (w work) areSame(l lot, p pair) bool { return l.of[p.one] == l.of[p.other] }

// plant is a grower's plant that may be in a cake.
type plant struct{ cake, grower int }

func (p plant) check(w work) api.Errno {
	if !w.hasCake(p.cake) || !(Range{0, api.MaxCakeGrower}).has(p.grower) {
		return api.ErrRange
	}
	return api.OK
}

func (w work) isIn(l lot, p plant) bool {
	return slices.Contains(w.Boilings[l.of[p.cake]].Plants, p.grower)
}

// question is what is asked of a truth about something.
type question[About, Answer any] struct {
	of func(w work, l lot, about About) Answer
}

// answers returns what all truths answer.
func (q question[About, Answer]) answers(w work, about About) []Answer {
	var all []Answer
	for _, l := range w.truths {
		all = append(all, q.of(w, l, about))
	}
	return all
}

// bounds returns the range of the answers. There must be one.
func bounds(answers []int) Range {
	return Range{minimum(answers[0], answers[1:]...), slices.Max(answers)}
}

// verdict returns whether the answers are yes. There must be one.
func verdict(answers []bool) int {
	switch {
	case !slices.Contains(answers, false):
		return Always
	case !slices.Contains(answers, true):
		return Never
	}
	return Perhaps
}

// cakeOf is a cake that is of a boiling.
type cakeOf struct{ cake, boiling int }

// truthsOfEach returns in how many truths each cake is of each boiling.
func (w work) truthsOfEach() map[cakeOf]int {
	truths := map[cakeOf]int{}
	for _, l := range w.truths {
		for cake := range len(w.Cakes) {
			truths[cakeOf{cake, l.of[cake]}]++
		}
	}
	return truths
}

// bestTrial returns the cake to try first, and what a trial of it leaves. There must be a cake, and a truth.
func (w work) bestTrial() (cake, left int) {
	truths := w.truthsOfEach()
	left = len(w.truths) // No trial leaves more: the first cake stays, unless a later one leaves fewer.
	for x := range len(w.Cakes) {
		most := 0
		for b := range len(w.Boilings) {
			most = max(most, truths[cakeOf{x, b}])
		}
		if most < left {
			cake, left = x, most
		}
	}
	return cake, left
}

// wrongOfAll checks the cut, and returns the wrong looks of each lot in which the counts are right: there must be one.
func wrongOfAll(c Cut) ([][]int, api.Errno) {
	if e := CheckCut(c); e != api.OK {
		return nil, e
	}
	var all [][]int
	w := work{Cut: c}
	for l := range w.lots() {
		if w.areCountsRight(l) {
			all = append(all, w.wrongLooks(l))
		}
	}
	if len(all) == 0 {
		return nil, api.ErrFail
	}
	return all, api.OK
}

// smallestSet returns the smallest set of looks without which one of the lists of wrong ones is empty. There must be one.
func smallestSet(cakes int, wrongOfAll [][]int) []int {
	var smallest []int
search:
	for many := range cakes + 1 {
		for set := range allSets(cakes, many) {
			isLeft := func(cake int) bool { return slices.Contains(set, cake) }
			for _, wrong := range wrongOfAll {
				if every(wrong, isLeft) {
					smallest = set
					break search
				}
			}
		}
	}
	return smallest
}

// allSets returns all increasing lists of so many numbers from 0 to below most, lexicographically.
func allSets(most, many int) iter.Seq[[]int] {
	return func(yield func([]int) bool) {
		var set []int
		var choose func(from int) bool
		choose = func(from int) bool {
			if len(set) == many {
				return yield(slices.Clone(set))
			}
			for n := from; n < most; n++ {
				set = append(set, n)
				if !choose(n + 1) {
					return false
				}
				set = set[:len(set)-1]
			}
			return true
		}
		choose(0)
	}
}

func every[T any](list []T, ok func(T) bool) bool {
	for _, x := range list {
		if !ok(x) {
			return false
		}
	}
	return true
}

func minimum(first int, others ...int) int {
	for _, n := range others {
		first = min(first, n)
	}
	return first
}
