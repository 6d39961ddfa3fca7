package gang

import (
	"iter"
	"slices"

	"anil/api"
	"anil/steep"
)

// moment is a vat with the hour after which it is let down.
type moment struct{ vat, hour int }

// plan has a moment for each vat, in their order, but for the vats that are left.
type plan []moment

// shift has how many men are at work in each hour.
type shift [api.MaxGangClose + 1]int

// crew is a gang at work, with the moments in which vats are ripe always if it was opened.
type crew struct {
	Gang
	ripe map[moment]bool
}

// open checks the gang, and finds what is ripe always.
func open(g Gang) (crew, api.Errno) {
	if e := CheckGang(g); e != api.OK {
		return crew{}, e
	}
	c := crew{g, map[moment]bool{}}
	for vat := range c.Steep.Vats {
		good, e := steep.Good(c.Steep, vat)
		if e != api.OK { // The vat has no good hour.
			continue
		}
		for hour := good.Lo; hour <= good.Hi; hour++ {
			c.ripe[moment{vat, hour}] = true
		}
	}
	return c, api.OK
}

// openPlan is open for the calls that name a plan.
func openPlan(g Gang, hours []int) (crew, plan, api.Errno) {
	c, e := open(g)
	switch {
	case e != api.OK:
		return crew{}, nil, e
	case len(hours) != len(c.Works):
		return crew{}, nil, api.ErrRange
	}
	var p plan
	for vat, hour := range hours {
		p = append(p, moment{vat, hour})
	}
	if !every(p, c.isMoment) {
		return crew{}, nil, api.ErrRange
	}
	return c, p, api.OK
}

// isValid reports whether the gang is valid, except for its Steep and for what is above its limits.
func (c crew) isValid() bool {
	largest := Work{Men: api.MaxGangMen, Hours: Range{0, api.MaxGangHours}}
	return 0 <= c.Men && 0 <= c.Close && len(c.Works) == len(c.Steep.Vats) && every(c.Works, largest.allows)
}

// allows reports whether the other work is valid, if x is the largest one that is.
func (x Work) allows(other Work) bool {
	return Range{0, x.Men}.has(other.Men) && x.Hours.has(other.Hours.Lo) && x.Hours.has(other.Hours.Hi) && other.Hours.Lo <= other.Hours.Hi
}

// isMoment reports whether the hour is from the Begin of its vat to Last. There must be such a vat.
func (c crew) isMoment(m moment) bool {
	return Range{c.Steep.Vats[m.vat].Begin, c.Steep.Last}.has(m.hour)
}

// isHours reports whether the list is one of numbers of hours.
func (c crew) isHours(list []int) bool {
	if len(list) != len(c.Works) {
		return false
	}
	for vat, n := range list {
		if !c.Works[vat].Hours.has(n) {
			return false
		}
	}
	return true
}

func (r Range) has(n int) bool { return r.Lo <= n && n <= r.Hi }

func (r Range) low() int { return r.Lo }

func (r Range) high() int { return r.Hi }

// end is one of the two ends of a range.
type end struct {
	of func(r Range) int
}

// hours returns the numbers of hours that are this end of the Hours of all works.
func (e end) hours(works []Work) []int {
	list := make([]int, len(works))
	for i, x := range works {
		list[i] = e.of(x.Hours)
	}
	return list
}

// play returns how many men are at work in each hour, unless some hour of a work is after Close.
func (c crew) play(p plan, hours []int) (men shift, inTime bool) {
	for _, m := range p {
		for i := range hours[m.vat] {
			hour := m.hour + 1 + i
			if hour > c.Close {
				return shift{}, false
			}
			men[hour] += c.Works[m.vat].Men
		}
	}
	return men, true
}

// atMost returns the shift without the men who are more than so many in an hour.
func (s shift) atMost(men int) shift {
	for hour, n := range s {
		s[hour] = minimum(n, men)
	}
	return s
}

func (c crew) isRipe(m moment) bool { return c.ripe[m] }

// isSure reports whether the plan is a sure one of the vats that it has.
func (c crew) isSure(p plan) bool {
	if !every(p, c.isRipe) {
		return false
	}
	// With smaller numbers of hours no hour has more men at work, and no work has more hours.
	men, inTime := c.play(p, end{Range.high}.hours(c.Works))
	return inTime && men == men.atMost(c.Men)
}

// done returns the hour in which the plan is done.
func (c crew) done(p plan) int {
	last := 0
	for _, m := range p {
		last = max(last, m.hour+c.Works[m.vat].Hours.Hi)
	}
	return last
}

// plans returns all plans, lexicographically; if vats may be left, so also those that leave some.
func (c crew) plans(mayLeave bool) iter.Seq[plan] {
	return func(yield func(plan) bool) {
		var extend func(p plan, vat int) bool
		extend = func(p plan, vat int) bool {
			if vat == len(c.Works) {
				return yield(slices.Clone(p))
			}
			for hour := c.Steep.Vats[vat].Begin; hour <= c.Steep.Last; hour++ {
				if !extend(append(p, moment{vat, hour}), vat+1) {
					return false
				}
			}
			return !mayLeave || extend(p, vat+1)
		}
		extend(make(plan, 0, len(c.Works)), 0)
	}
}

// bestPlan returns the best plan, if there is a sure one.
func (c crew) bestPlan() (best plan, ok bool) {
	for p := range c.plans(false) {
		// The first of those that are done in the same hour stays.
		if c.isSure(p) && (!ok || c.done(p) < c.done(best)) {
			best, ok = p, true
		}
	}
	return best, ok
}

// fewestMen returns the fewest men with which there is a sure plan, if there are any.
func (c crew) fewestMen() (men int, ok bool) {
search:
	for n := range api.MaxGangMen + 1 {
		c.Men = n
		for p := range c.plans(false) {
			if c.isSure(p) {
				men, ok = n, true
				break search
			}
		}
	}
	return men, ok
}

// allLeft returns for each sure plan of all vats, or of some, the vats that it leaves.
func (c crew) allLeft() [][]int {
	var all [][]int
	for p := range c.plans(true) {
		if c.isSure(p) {
			all = append(all, c.leftBy(p))
		}
	}
	return all
}

// leftBy returns the vats that the plan leaves.
func (c crew) leftBy(p plan) []int {
	var left []int
	for vat := range c.Works {
		if !slices.ContainsFunc(p, func(m moment) bool { return m.vat == vat }) {
			left = append(left, vat)
		}
	}
	return left
}

func every[T any](list []T, ok func(T) bool) bool {
	for _, x := range list {
		if !ok(x) {
			return false
		}
	}
	return true
}

func minimum(first int, others ...int) int {
	for _, n := range others {
		first = min(first, n)
	}
	return first
}
