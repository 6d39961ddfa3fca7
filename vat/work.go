package vat

import (
	"iter"
	"slices"

	"anil/api"
)

// blues has the blue of a bundle of each field, and 0 for the fields that the yard lacks.
type blues [api.MaxVatFields]int

// further has the further bundles of each vat, and 0 for the vats that the yard lacks.
type further [api.MaxVatVats]int

// work is a yard at work, with its truths if it was opened.
type work struct {
	Yard
	truths []blues
}

// open checks the yard, and finds its truths.
func open(y Yard) (work, api.Errno) {
	if e := CheckYard(y); e != api.OK {
		return work{}, e
	}
	w := work{Yard: y}
	for b := range w.allBlues() {
		if w.isTruth(b) {
			w.truths = append(w.truths, b)
		}
	}
	return w, api.OK
}

// openTrue is open for the calls that have no errors between those of the yard and ErrFalse.
func openTrue(y Yard) (work, api.Errno) {
	w, e := open(y)
	if e == api.OK && len(w.truths) == 0 {
		return work{}, api.ErrFalse
	}
	return w, e
}

func isField(f Range) bool { return f.isUpTo(api.MaxVatBlue) }

func (w work) isVat(bundles []int) bool {
	return len(bundles) == len(w.Fields) && every(bundles, isBundles)
}

func isBundles(n int) bool { return 0 <= n && n <= api.MaxVatBundles }

func (w work) isSample(s Sample) bool { return w.hasVat(s.Vat) && s.Blue.isUpTo(api.MaxVatMost) }

func isFurther(n int) bool { return 0 <= n && n <= api.MaxVatFurther }

func (w work) hasVat(vat int) bool { return 0 <= vat && vat < len(w.Vats) }

func (w work) hasField(field int) bool { return 0 <= field && field < len(w.Fields) }

// isUpTo reports whether r is a range of numbers from 0 to most.
func (r Range) isUpTo(most int) bool { return 0 <= r.Lo && r.Lo <= r.Hi && r.Hi <= most }

func (r Range) has(n int) bool { return r.Lo <= n && n <= r.Hi }

// size returns how many blues there are.
func (w work) size() int {
	n := 1
	for _, f := range w.Fields {
		n *= f.Hi - f.Lo + 1
	}
	return n
}

// toBlues makes blues of the list, if it is a list of blues.
func (w work) toBlues(list []int) (b blues, ok bool) {
	if len(list) != len(w.Fields) {
		return blues{}, false
	}
	for f, r := range w.Fields {
		if !r.has(list[f]) {
			return blues{}, false
		}
		b[f] = list[f]
	}
	return b, true
}

// allBlues returns all blues of the yard, whether its samples are right or not.
func (w work) allBlues() iter.Seq[blues] {
	return func(yield func(blues) bool) {
		var b blues
		var choose func(field int) bool
		choose = func(field int) bool {
			if field == len(w.Fields) {
				return yield(b)
			}
			for n := w.Fields[field].Lo; n <= w.Fields[field].Hi; n++ {
				b[field] = n
				if !choose(field + 1) {
					return false
				}
			}
			return true
		}
		choose(0)
	}
}

func (w work) inVat(b blues, vat int) int {
	sum := 0
	for f, n := range w.Vats[vat] {
		sum += n * b[f]
	}
	return sum
}

func (w work) inBundle(b blues, field int) int { return b[field] }

func (w work) isRight(b blues, s Sample) bool { return s.Blue.has(w.inVat(b, s.Vat)) }

func (w work) isTruth(b blues) bool {
	return every(w.Samples, func(s Sample) bool { return w.isRight(b, s) })
}

func (w work) wrongSamples(b blues) []int {
	var wrong []int
	for i, s := range w.Samples {
		if !w.isRight(b, s) {
			wrong = append(wrong, i)
		}
	}
	return wrong
}

// measure is a quantity of a truth that has bounds; index says of which vat, or field.
type measure struct {
	of func(w work, truth blues, index int) int
}

// bounds returns the range of the quantity in all truths, for each index below many. There must be a truth.
func (m measure) bounds(w work, many int) []Range {
	out := make([]Range, many)
	for i := range many {
		n := m.of(w, w.truths[0], i)
		r := Range{n, n}
		for _, t := range w.truths[1:] {
			n := m.of(w, t, i)
			r = Range{minimum(r.Lo, n), max(r.Hi, n)}
		}
		out[i] = r
	}
	return out
}

// sampled is what a sample of a vat may find out.
type sampled struct{ vat, blue int }

// leaves returns what a sample of each vat leaves.
func (w work) leaves() []int {
	truths := map[sampled]int{}
	left := make([]int, len(w.Vats))
	for _, t := range w.truths {
		for v := range len(w.Vats) {
			s := sampled{v, w.inVat(t, v)}
			truths[s]++
			left[v] = max(left[v], truths[s])
		}
	}
	return left
}

// sureBlue returns the blue that is in the vat in each truth, with so many further bundles of the field. There must be a truth.
func (w work) sureBlue(vat, field, many int) int {
	blue := func(t blues) int { return w.inVat(t, vat) + many*t[field] }
	least := blue(w.truths[0])
	for _, t := range w.truths[1:] {
		least = minimum(least, blue(t))
	}
	return least
}

// bestSpread returns the best spread of so many bundles of the field, and its least blue. There must be a vat, and a truth.
func (w work) bestSpread(field, many int) (best further, least int) {
	var sure [api.MaxVatVats][api.MaxVatFurther + 1]int
	for v := range len(w.Vats) {
		for n := range many + 1 {
			sure[v][n] = w.sureBlue(v, field, n)
		}
	}
	least = -1
	for put := range allSpreads(len(w.Vats), many) {
		low := sure[0][put[0]]
		for v := range len(w.Vats) {
			low = minimum(low, sure[v][put[v]])
		}
		// The spreads come lexicographically: of several with the same least blue the first one stays.
		if low > least {
			best, least = put, low
		}
	}
	return best, least
}

// allSpreads returns all spreads of so many bundles over vats, lexicographically.
func allSpreads(vats, many int) iter.Seq[further] {
	return func(yield func(further) bool) {
		var put further
		var fill func(vat, rest int) bool
		fill = func(vat, rest int) bool {
			if vat == vats-1 {
				put[vat] = rest
				return yield(put)
			}
			for n := range rest + 1 {
				put[vat] = n
				if !fill(vat+1, rest-n) {
					return false
				}
			}
			return true
		}
		fill(0, many)
	}
}

// isBefore reports whether the list one is shorter than the other one, or as long and lexicographically before it.
func isBefore(one, other []int) bool {
	if len(one) != len(other) {
		return len(one) < len(other)
	}
	return slices.Compare(one, other) < 0
}

func every[T any](list []T, ok func(T) bool) bool {
	for _, x := range list {
		if !ok(x) {
			return false
		}
	}
	return true
}

func minimum(first int, others ...int) int {
	for _, n := range others {
		first = min(first, n)
	}
	return first
}
