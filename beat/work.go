package beat

import (
	"iter"
	"slices"

	"anil/api"
)

// dones has for each vat when it is done, and 0 for the vats that the beating lacks.
type dones [api.MaxBeatVats]int

// work is a beating at work. All that is asked of a truth depends on when the vats are done in it alone: truths has these hours of all truths, each once.
type work struct {
	Beating
	truths []dones
}

// open checks the beating, then the conditions on other arguments, and at last finds the truths: there must be one.
func open(b Beating, conditions ...func(w work) bool) (work, api.Errno) {
	if e := CheckBeating(b); e != api.OK {
		return work{}, e
	}
	w := work{Beating: b}
	if !every(conditions, func(isMet func(w work) bool) bool { return isMet(w) }) {
		return work{}, api.ErrRange
	}
	for c := range w.courses() {
		if done := c.done(); w.isTruth(done) && !slices.Contains(w.truths, done) {
			w.truths = append(w.truths, done)
		}
	}
	if len(w.truths) == 0 {
		return work{}, api.ErrFalse
	}
	return w, api.OK
}

// isValid reports whether the beating is valid, except for its sizes.
func (w work) isValid() bool {
	return 0 <= w.Last && w.Sun.isUpTo(api.MaxBeatSun) && every(w.Vats, Vat.isValid) && every(w.Samples, w.isSample)
}

func (v Vat) isValid() bool {
	return v.Needs.isUpTo(api.MaxBeatNeeds) && Range{0, api.MaxBeatLoss}.has(v.Early) && Range{0, api.MaxBeatLoss}.has(v.Late)
}

func (w work) isSample(s Sample) bool { return w.hasVat(s.Vat) && w.hasHour(s.Hour) }

func (w work) hasVat(vat int) bool { return 0 <= vat && vat < len(w.Vats) }

func (w work) hasHour(hour int) bool { return 0 <= hour && hour <= w.Last }

func (w work) isEndings(list []int) bool { return len(list) == len(w.Vats) && every(list, w.hasHour) }

// isCourse reports whether c is a course, whether the samples are right in it or not.
func (w work) isCourse(c Course) bool {
	if !w.Sun.has(c.Sun) || len(c.Needs) != len(w.Vats) {
		return false
	}
	for v, n := range c.Needs {
		if !w.Vats[v].Needs.has(n) {
			return false
		}
	}
	return true
}

// isUpTo reports whether r is a range of numbers from 0 to most.
func (r Range) isUpTo(most int) bool { return 0 <= r.Lo && r.Lo <= r.Hi && r.Hi <= most }

func (r Range) has(n int) bool { return r.Lo <= n && n <= r.Hi }

func (r Range) size() int { return r.Hi - r.Lo + 1 }

// size returns how many courses there are.
func (w work) size() int {
	many := w.Sun.size()
	for _, v := range w.Vats {
		many *= v.Needs.size()
	}
	return many
}

// courses returns all courses, whether the samples are right in them or not.
func (w work) courses() iter.Seq[Course] {
	return func(yield func(Course) bool) {
		needs := make([]int, len(w.Vats))
		var choose func(sun, vat int) bool
		choose = func(sun, vat int) bool {
			if vat == len(needs) {
				return yield(Course{sun, slices.Clone(needs)})
			}
			for i := range w.Vats[vat].Needs.size() {
				needs[vat] = w.Vats[vat].Needs.Lo + i
				if !choose(sun, vat+1) {
					return false
				}
			}
			return true
		}
		for i := range w.Sun.size() {
			if !choose(w.Sun.Lo+i, 0) {
				return
			}
		}
	}
}

func (c Course) done() (done dones) {
	for v, n := range c.Needs {
		done[v] = n + c.Sun
	}
	return done
}

func (d dones) isRight(s Sample) bool { return (d[s.Vat] <= s.Hour) == s.Done }

// isTruth reports whether all samples are right if the vats are done then.
func (w work) isTruth(d dones) bool { return every(w.Samples, d.isRight) }

// loses returns what the vat loses if it is ended at the hour.
func (v Vat) loses(hour, done int) int {
	if hour < done {
		return v.Early * (done - hour)
	}
	return v.Late * (hour - done)
}

// plan has vats, with endings for all, or for the first ones.
type plan struct {
	vats    []Vat
	endings []int
}

func (d dones) loss(p plan) int {
	sum := 0
	for v, hour := range p.endings {
		sum += p.vats[v].loses(hour, d[v])
	}
	return sum
}

func (d dones) at(vat int) int { return d[vat] }

// measure is a number that each truth has for what is asked about.
type measure[About any] struct {
	of func(d dones, about About) int
}

// bounds returns the range of the measure in all truths. There must be one.
func (m measure[About]) bounds(truths []dones, about About) Range {
	first := m.of(truths[0], about)
	r := Range{first, first}
	for _, d := range truths[1:] {
		n := m.of(d, about)
		r = Range{minimum(r.Lo, n), max(r.Hi, n)}
	}
	return r
}

func (w work) whenDone(vat int) Range { return measure[int]{dones.at}.bounds(w.truths, vat) }

// losses returns the range of what the vats lose that have endings in the list.
func (w work) losses(endings []int) Range {
	return measure[plan]{dones.loss}.bounds(w.truths, plan{w.Vats, endings})
}

// moment is a vat at an hour.
type moment struct{ vat, hour int }

// verdicts returns whether each vat is done at each hour.
func (w work) verdicts() map[moment]int {
	all := map[moment]int{}
	for v := range w.Vats {
		done := w.whenDone(v)
		for hour := range w.Last + 1 {
			switch {
			case done.Hi <= hour:
				all[moment{v, hour}] = Always
			case hour < done.Lo:
				all[moment{v, hour}] = Never
			default:
				all[moment{v, hour}] = Perhaps
			}
		}
	}
	return all
}

// bestEndings returns the best endings, and their worst loss.
func (w work) bestEndings() (best []int, worst int) {
	best = make([]int, len(w.Vats))
	worst = w.losses(best).Hi
	var choose func(endings []int)
	choose = func(endings []int) {
		n := w.losses(endings).Hi
		switch {
		case n >= worst:
			// Whatever the other vats lose, these endings are no better.
		case len(endings) == len(w.Vats):
			best, worst = slices.Clone(endings), n
		default:
			for hour := range w.Last + 1 {
				choose(append(endings, hour))
			}
		}
	}
	choose(make([]int, 0, len(w.Vats)))
	return best, worst
}

// bestSample returns the best sample, and what it leaves. There must be a vat.
func (w work) bestSample() (vat, hour, left int) {
	verdicts := w.verdicts()
	_, left = w.bestEndings() // No sample leaves more, and one whose answer is known leaves as much.
search:
	for v := range w.Vats {
		for h := range w.Last + 1 {
			if left == 0 {
				break search
			}
			if verdicts[moment{v, h}] != Perhaps {
				continue
			}
			if n := max(w.worstWith(Sample{v, h, true}), w.worstWith(Sample{v, h, false})); n < left {
				vat, hour, left = v, h, n
			}
		}
	}
	return vat, hour, left
}

// worstWith returns the worst loss of the best endings with one more sample. It must be right in some truth.
func (w work) worstWith(s Sample) int {
	w.truths = slices.DeleteFunc(slices.Clone(w.truths), func(d dones) bool { return !d.isRight(s) })
	_, worst := w.bestEndings()
	return worst
}

// wrongOfAll returns for each course the samples that are not right in it.
func (w work) wrongOfAll() [][]int {
	var all [][]int
	for c := range w.courses() {
		var wrong []int
		done := c.done()
		for i, s := range w.Samples {
			if !done.isRight(s) {
				wrong = append(wrong, i)
			}
		}
		all = append(all, wrong)
	}
	return all
}

func every[T any](list []T, ok func(T) bool) bool {
	for _, x := range list {
		if !ok(x) {
			return false
		}
	}
	return true
}

func minimum(first int, others ...int) int {
	for _, n := range others {
		first = min(first, n)
	}
	return first
}
