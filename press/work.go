package press

import (
	"iter"
	"slices"

	"anil/api"
	"anil/beat"
	"anil/vat"
)

// amounts has a number for each vat, as its mud, and 0 for the vats that there are not. (A beating has no more vats, though a yard could.)
type amounts [api.MaxBeatVats]int

// pressing is mud in a box with a Force.
type pressing struct{ mud, force int }

// work is works at work. If it was opened, it has what the vats can have together, in truths or in two of them, each such array once: of blue, of mud, and of the hours that the mud needs.
type work struct {
	Works
	blues, muds, hours []amounts
}

// open checks the works, and finds what is so in all two truths.
func open(w Works) (work, api.Errno) {
	if e := CheckWorks(w); e != api.OK {
		return work{}, e
	}
	k := work{Works: w}
	k.blues = distinct(k.allBlues())
	k.muds = distinct(k.mudsWith(k.Endings))
	k.hours = distinct(k.allHours())
	return k, api.OK
}

// openPlan is open for the calls that name a plan.
func openPlan(w Works, plan []int) (work, api.Errno) {
	k, e := open(w)
	switch {
	case e != api.OK:
		return work{}, e
	case len(plan) != len(k.Endings) || !every(plan, k.hasBox):
		return work{}, api.ErrRange
	}
	return k, api.OK
}

// isValid reports whether the works are valid, except for the Yard and the Beating, and for the sizes.
func (k work) isValid() bool {
	vats := len(k.Beating.Vats)
	return len(k.Yard.Vats) == vats && len(k.Endings) == vats && every(k.Endings, k.hasHour) &&
		Range{1, api.MaxPressBoxes}.has(k.Boxes) && Range{1, api.MaxPressForce}.has(k.Force) &&
		Range{0, api.MaxPressLast}.has(k.Last) && Range{1, api.MaxPressCake}.has(k.Cake)
}

func (k work) hasHour(hour int) bool { return Range{0, k.Beating.Last}.has(hour) }

func (k work) hasBox(box int) bool { return Range{0, k.Boxes - 1}.has(box) }

func (r Range) has(n int) bool { return r.Lo <= n && n <= r.Hi }

func (r Range) low() int { return r.Lo }

func (r Range) high() int { return r.Hi }

// end is one of the two ends of a range.
type end struct {
	of func(r Range) int
}

// each returns this end of each range.
func (e end) each(list []Range) []int {
	ends := make([]int, len(list))
	for i, r := range list {
		ends[i] = e.of(r)
	}
	return ends
}

// fields returns the ranges of which a truth of the Yard has one number each.
func (k work) fields() []Range {
	var list []Range
	for _, f := range k.Yard.Fields {
		list = append(list, Range(f))
	}
	return list
}

// courses returns the ranges of which a truth of the Beating has one number each: that of the Sun, then those of Needs.
func (k work) courses() []Range {
	list := []Range{Range(k.Beating.Sun)}
	for _, v := range k.Beating.Vats {
		list = append(list, Range(v.Needs))
	}
	return list
}

// size returns how many two truths there are, whether the samples are right in them or not.
func (k work) size() int {
	many := 1
	for _, r := range append(k.fields(), k.courses()...) {
		many *= r.Hi - r.Lo + 1
	}
	return many
}

// allBlues returns the blue of the vats in each truth of the Yard.
func (k work) allBlues() []amounts {
	var all []amounts
	for list := range choices(k.fields()) {
		// In a yard with just these blues the bounds of a vat are its blue. It has ErrFalse if they are no truth.
		known := k.Yard
		known.Fields = nil
		for _, n := range list {
			known.Fields = append(known.Fields, vat.Range{Lo: n, Hi: n})
		}
		bounds, e := vat.Bounds(known)
		if e != api.OK {
			continue
		}
		var blue amounts
		for v, r := range bounds {
			blue[v] = r.Lo
		}
		all = append(all, blue)
	}
	return all
}

// allLosses returns what the vats lose with the endings in each truth of the Beating.
func (k work) allLosses(endings []int) []amounts {
	var all []amounts
	for list := range choices(k.courses()) {
		c := beat.Course{Sun: list[0], Needs: list[1:]}
		if !beat.ProveTruth(k.Beating, c) {
			continue
		}
		losses, _ := beat.Play(k.Beating, c, endings) // These are a course, and endings, so that there is no error.
		var lost amounts
		copy(lost[:], losses)
		all = append(all, lost)
	}
	return all
}

// mudsWith returns the muds of the vats, in all two truths, with the endings.
func (k work) mudsWith(endings []int) []amounts {
	var all []amounts
	losses := distinct(k.allLosses(endings))
	for _, blue := range k.blues {
		for _, lost := range losses {
			var mud amounts
			for v := range len(mud) {
				mud[v] = max(0, blue[v]-lost[v])
			}
			all = append(all, mud)
		}
	}
	return all
}

// allHours returns the hours that the muds need.
func (k work) allHours() []amounts {
	known := map[pressing]int{}
	return changed(k.muds, func(mud int) int {
		p := pressing{mud, k.Force}
		hours, isKnown := known[p]
		if !isKnown {
			hours = p.hours()
			known[p] = hours
		}
		return hours
	})
}

// hours returns the hours that the mud needs.
func (p pressing) hours() int {
	hours, rest := 0, p.mud
search:
	for {
		switch {
		case rest <= 0:
			break search
		default:
			hours++
			rest -= p.force * hours
		}
	}
	return hours
}

// ranges returns for each vat the range of its number in the list, which has some amounts.
func (k work) ranges(list []amounts) []Range {
	out := make([]Range, len(k.Endings))
	for v := range len(k.Endings) {
		var numbers []int
		for _, a := range list {
			numbers = append(numbers, a[v])
		}
		out[v] = Range{minimum(numbers[0], numbers[1:]...), slices.Max(numbers)}
	}
	return out
}

// whenPressed returns for each vat the range of when it is pressed by the plan.
func (k work) whenPressed(plan []int) []Range {
	var all []amounts
	for _, hours := range k.hours {
		var when amounts
		var now [api.MaxPressBoxes]int // the hour of each box
		for v, box := range plan {
			now[box] += hours[v]
			when[v] = now[box]
		}
		all = append(all, when)
	}
	return k.ranges(all)
}

func (k work) ending(plan []int) int {
	ending := 0
	for _, hour := range (end{Range.high}).each(k.whenPressed(plan)) {
		ending = max(ending, hour)
	}
	return ending
}

// plans returns all plans, lexicographically.
func (k work) plans() iter.Seq[[]int] {
	return choices(slices.Repeat([]Range{{0, k.Boxes - 1}}, len(k.Endings)))
}

// bestPlan returns the best plan, and its ending.
func (k work) bestPlan() (best []int, ending int) {
	best = make([]int, len(k.Endings)) // the first plan
	ending = k.ending(best)
	for plan := range k.plans() {
		// Of several with the same ending the first one stays.
		if n := k.ending(plan); n < ending {
			best, ending = plan, n
		}
	}
	return best, ending
}

// wiseEndings returns the wise endings.
func (k work) wiseEndings() []int {
	wise := make([]int, len(k.Endings))
	most := make([]int, len(k.Endings)) // The sure mud with these. No vat has less than 0.
	for hour := range k.Beating.Last + 1 {
		// The mud of a vat depends on no ending but its own, so that the same hour can be tried for all of them.
		muds := k.mudsWith(slices.Repeat([]int{hour}, len(wise)))
		for v, mud := range (end{Range.low}).each(k.ranges(muds)) {
			if mud > most[v] {
				wise[v], most[v] = hour, mud
			}
		}
	}
	return wise
}

// choices returns all lists with one number of each range, lexicographically.
func choices(ranges []Range) iter.Seq[[]int] {
	return func(yield func([]int) bool) {
		var extend func(list []int) bool
		extend = func(list []int) bool {
			if len(list) == len(ranges) {
				return yield(slices.Clone(list))
			}
			r := ranges[len(list)]
			for n := r.Lo; n <= r.Hi; n++ {
				if !extend(append(list, n)) {
					return false
				}
			}
			return true
		}
		extend(make([]int, 0, len(ranges)))
	}
}

// changed returns the amounts with what becomes of each of their numbers.
func changed(list []amounts, become func(n int) int) []amounts {
	var out []amounts
	for _, a := range list {
		for v, n := range a {
			a[v] = become(n)
		}
		out = append(out, a)
	}
	return out
}

// distinct returns the amounts of the list, each once.
func distinct(list []amounts) []amounts {
	var out []amounts
	isKnown := map[amounts]bool{}
	for _, a := range list {
		if !isKnown[a] {
			isKnown[a] = true
			out = append(out, a)
		}
	}
	return out
}

func every[T any](list []T, ok func(T) bool) bool {
	for _, x := range list {
		if !ok(x) {
			return false
		}
	}
	return true
}

func minimum(first int, others ...int) int {
	for _, n := range others {
		first = min(first, n)
	}
	return first
}
