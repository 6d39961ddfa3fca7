package river

import (
	"iter"
	"slices"

	"anil/api"
)

// levels has a number for each day, and 0 for the days that the river lacks.
type levels [api.MaxRiverLast + 1]int

// truth is a Truth in arrays, so that a copy of it shares no memory with it.
type truth struct{ salt, mud levels }

// days are the days whose elements are true.
type days [api.MaxRiverLast + 1]bool

// stock is what is in the tank before a day, with the days, by bits from this one on, on which water is drawn.
type stock struct{ day, drawn, amount int }

// work is a river at work. If it was opened, it has the days that are good in its truths, each such array once, and what is known of stocks: whether they last to the end. Nothing else of a truth matters to the tank.
type work struct {
	River
	storms days
	goods  []days
	known  map[stock]bool
}

// open checks the river, then whether what is asked about is in range, and at last looks for truths: there must be one.
func open(r River, areInRange ...func(w work) bool) (work, api.Errno) {
	if e := CheckRiver(r); e != api.OK {
		return work{}, e
	}
	w := work{River: r, known: map[stock]bool{}}
	for _, isInRange := range areInRange {
		if !isInRange(w) {
			return work{}, api.ErrRange
		}
	}
	for t := range w.allTruths() {
		good := w.goodDays(t)
		if len(w.wrongGauges(t)) == 0 && !slices.Contains(w.goods, good) {
			w.goods = append(w.goods, good)
		}
	}
	if len(w.goods) == 0 {
		return work{}, api.ErrFalse
	}
	return w, api.OK
}

// withSize returns the river with another tank.
func (w work) withSize(size int) work {
	w.Size, w.known = size, map[stock]bool{}
	return w
}

// withStorm returns the river with a storm on the day.
func (w work) withStorm(day int) work {
	w.storms[day], w.known = true, map[stock]bool{}
	return w
}

// isValid reports whether the river is valid, except for its sizes.
func (w work) isValid() bool {
	return 0 <= w.Last && w.isDaily(w.Salt) && w.isDaily(w.Mud) && isLevel(w.Sweet) && isLevel(w.Clear) &&
		isAmount(w.Size) && Range{0, w.Size}.has(w.Start) && isAmount(w.Draw) &&
		len(w.Use) == w.Last+1 && every(w.Use, isAmount) && every(w.Gauges, w.isGauge)
}

// isDaily reports whether the list has a range of levels for each day.
func (w work) isDaily(list []Range) bool {
	return len(list) == w.Last+1 && every(list, Range.isOfLevels)
}

func (w work) isGauge(g Gauge) bool { return w.hasDay(g.Day) && g.Read.isOfLevels() }

func (w work) hasDay(day int) bool { return Range{0, w.Last}.has(day) }

func (w work) isPlan(list []int) bool {
	for i, day := range list {
		if !w.hasDay(day) || i > 0 && day <= list[i-1] {
			return false
		}
	}
	return true
}

func isLevel(n int) bool { return Range{0, api.MaxRiverSalt}.has(n) }

func isAmount(n int) bool { return Range{0, api.MaxRiverTank}.has(n) }

func (r Range) isOfLevels() bool { return isLevel(r.Lo) && isLevel(r.Hi) && r.Lo <= r.Hi }

func (r Range) has(n int) bool { return r.Lo <= n && n <= r.Hi }

// unknown is a number of a truth, with the range that it is in.
type unknown struct {
	number *int
	in     Range
}

func (u unknown) isIn() bool { return u.in.has(*u.number) }

// unknowns returns all numbers of t, in the order in which they are chosen.
func (w work) unknowns(t *truth) []unknown {
	var list []unknown
	for day := range w.Last + 1 {
		list = append(list, unknown{&t.salt[day], w.Salt[day]}, unknown{&t.mud[day], w.Mud[day]})
	}
	return list
}

// size returns how many truths there are, whether the gauges are right in them or not.
func (w work) size() int {
	many := 1
	for _, u := range w.unknowns(&truth{}) {
		many *= u.in.Hi - u.in.Lo + 1
	}
	return many
}

// toTruth makes a truth of t, if it is one, whether the gauges are right in it or not.
func (w work) toTruth(t Truth) (made truth, ok bool) {
	if len(t.Salt) != w.Last+1 || len(t.Mud) != w.Last+1 {
		return truth{}, false
	}
	copy(made.salt[:], t.Salt)
	copy(made.mud[:], t.Mud)
	if !every(w.unknowns(&made), unknown.isIn) {
		return truth{}, false
	}
	return made, true
}

// allTruths returns all truths, whether the gauges are right in them or not.
func (w work) allTruths() iter.Seq[truth] {
	return func(yield func(truth) bool) {
		var t truth
		list := w.unknowns(&t)
		var choose func(next int) bool
		choose = func(next int) bool {
			if next == len(list) {
				return yield(t)
			}
			u := list[next]
			for n := u.in.Lo; n <= u.in.Hi; n++ {
				*u.number = n
				if !choose(next + 1) {
					return false
				}
			}
			return true
		}
		choose(0)
	}
}

// goodDays returns the days that are good in the truth.
func (w work) goodDays(t truth) days {
	var good days
	for day := range w.Last + 1 {
		good[day] = t.salt[day] <= w.Sweet && t.mud[day] <= w.Clear
	}
	return good
}

// wrongGauges returns all gauges that are not right in the truth.
func (w work) wrongGauges(t truth) []int {
	var wrong []int
	for i, g := range w.Gauges {
		level := t.salt[g.Day]
		if g.Mud {
			level = t.mud[g.Day]
		}
		if !g.Read.has(level) {
			wrong = append(wrong, i)
		}
	}
	return wrong
}

// first returns what is in the tank before the day 0, with the days of the plan on which water is drawn, as they are good.
func (w work) first(good days, plan []int) stock {
	drawn := 0
	for _, day := range plan {
		if good[day] {
			drawn |= 1 << day
		}
	}
	return stock{0, drawn, w.Start}
}

// next returns the stock before the following day, and whether there is no lack of water on this one.
func (w work) next(s stock) (after stock, isEnough bool) {
	amount := s.amount
	if w.storms[s.day] {
		amount = 0
	}
	if s.drawn&1 == 1 {
		amount = minimum(amount+w.Draw, w.Size)
	}
	use := w.Use[s.day]
	return stock{s.day + 1, s.drawn >> 1, max(0, amount-use)}, amount >= use
}

// lasts reports whether there is no lack of water from the stock's day on.
func (w work) lasts(s stock) bool {
	if !w.hasDay(s.day) {
		return true
	}
	lasting, ok := w.known[s]
	if !ok {
		after, isEnough := w.next(s)
		lasting = isEnough && w.lasts(after)
		w.known[s] = lasting
	}
	return lasting
}

// asked is what is asked of a truth: something with a plan, or on a day, or both.
type asked struct {
	plan []int
	day  int
}

// isGood returns 1 if the day is good, 0 otherwise.
func (w work) isGood(good days, a asked) int { return number(good[a.day]) }

// isLasting returns 1 if the tank lasts with the plan, 0 otherwise.
func (w work) isLasting(good days, a asked) int { return number(w.lasts(w.first(good, a.plan))) }

// left returns what is in the tank after the day, with the plan.
func (w work) left(good days, a asked) int {
	s := w.first(good, a.plan)
	for range a.day + 1 {
		s, _ = w.next(s)
	}
	return s.amount
}

// dry returns the first day on which water is lacking with the plan, and the day after Last if there is none.
func (w work) dry(good days, a asked) int {
	s := w.first(good, a.plan)
	for w.hasDay(s.day) {
		after, isEnough := w.next(s)
		if !isEnough {
			break
		}
		s = after
	}
	return s.day
}

func number(is bool) int {
	if is {
		return 1
	}
	return 0
}

// quantity is what is bounded of a truth, of which only the days matter that are good in it.
type quantity struct {
	of func(w work, good days, a asked) int
}

// bounds returns the range of the quantity in all truths. There must be one.
func (q quantity) bounds(w work, a asked) Range {
	var all []int
	for _, good := range w.goods {
		all = append(all, q.of(w, good, a))
	}
	return Range{minimum(all[0], all[1:]...), slices.Max(all)}
}

// verdict returns what the bounds of a number say that is 1 if something is so, and 0 otherwise.
func verdict(r Range) int {
	switch {
	case r.Lo == 1:
		return Always
	case r.Hi == 0:
		return Never
	}
	return Perhaps
}

// lasting returns whether the tank lasts with the plan.
func (w work) lasting(plan []int) int {
	return verdict(quantity{work.isLasting}.bounds(w, asked{plan: plan}))
}

func (w work) isSure(plan []int) bool { return w.lasting(plan) == Always }

// hasSurePlan reports whether there is a sure plan. If there is one, that of all days is sure, too, as with more days no less is in the tank.
func (w work) hasSurePlan() bool {
	var plan []int
	for day := range w.Last + 1 {
		plan = append(plan, day)
	}
	return w.isSure(plan)
}

func (w work) fewest() ([]int, api.Errno) {
	plan, ok := shortest(w.Last+1, w.isSure)
	if !ok {
		return nil, api.ErrShort
	}
	return plan, api.OK
}

// wrongOfAll returns for each truth the gauges that are not right in it.
func (w work) wrongOfAll() [][]int {
	var all [][]int
	for t := range w.allTruths() {
		all = append(all, w.wrongGauges(t))
	}
	return all
}

func (w work) smallestSet() []int {
	all := w.wrongOfAll()
	set, _ := shortest(len(w.Gauges), func(set []int) bool { // All gauges can be left out: there is one.
		isLeft := func(gauge int) bool { return slices.Contains(set, gauge) }
		return slices.ContainsFunc(all, func(wrong []int) bool { return every(wrong, isLeft) })
	})
	return set
}

// shortest returns the shortest increasing list of numbers from 0 to below most that is ok, if there is one; of several of the same length the one that is lexicographically first.
func shortest(most int, ok func(list []int) bool) (found []int, is bool) {
search:
	for many := range most + 1 {
		for list := range rising(most, many) {
			if ok(list) {
				found, is = list, true
				break search
			}
		}
	}
	return found, is
}

// rising returns all increasing lists of so many numbers from 0 to below most, lexicographically.
func rising(most, many int) iter.Seq[[]int] {
	return func(yield func([]int) bool) {
		var list []int
		var choose func(from int) bool
		choose = func(from int) bool {
			if len(list) == many {
				return yield(slices.Clone(list))
			}
			for n := from; n < most; n++ {
				list = append(list, n)
				if !choose(n + 1) {
					return false
				}
				list = list[:len(list)-1]
			}
			return true
		}
		choose(0)
	}
}

func every[T any](list []T, ok func(T) bool) bool {
	for _, x := range list {
		if !ok(x) {
			return false
		}
	}
	return true
}

func minimum(first int, others ...int) int {
	for _, n := range others {
		first = min(first, n)
	}
	return first
}
