package chest

import (
	"iter"
	"slices"

	"anil/api"
	"anil/cake"
)

// pair is two cakes.
type pair struct{ one, other int }

// work is a pack at work, with the true shade of each cake in all truths, and what is known of how far two are apart, if it was opened.
type work struct {
	Pack
	tones []Range
	apart map[pair]Range
}

// open checks the pack, then whether what is asked about is in range, and at last asks which shades the cakes can have.
func open(p Pack, areInRange ...func(w work) bool) (work, api.Errno) {
	if e := CheckPack(p); e != api.OK {
		return work{}, e
	}
	w := work{Pack: p, apart: map[pair]Range{}}
	for _, isInRange := range areInRange {
		if !isInRange(w) {
			return work{}, api.ErrRange
		}
	}
	tones, e := cake.Tones(p.Cut)
	if e != api.OK {
		return work{}, e
	}
	for _, r := range tones {
		w.tones = append(w.tones, Range(r))
	}
	return w, api.OK
}

// isValid reports whether the pack is valid, except for its Cut.
func (w work) isValid() bool {
	return Range{2, api.MaxChestSize}.has(w.Size) && Range{0, api.MaxChestSpread}.has(w.Spread) &&
		Range{0, api.MaxChestSpread}.has(w.Width)
}

func (w work) hasCake(x int) bool { return 0 <= x && x < len(w.Cut.Cakes) }

func (w work) isChest(list []int) bool {
	return len(list) == w.Size && rises(list) && every(list, w.hasCake)
}

func rises(list []int) bool {
	for i := 1; i < len(list); i++ {
		if list[i] <= list[i-1] {
			return false
		}
	}
	return true
}

func (r Range) has(n int) bool { return r.Lo <= n && n <= r.Hi }

func (r Range) low() int { return r.Lo }

func (r Range) high() int { return r.Hi }

// end is one of the two ends of a range.
type end struct {
	of func(r Range) int
}

// tones returns this end of the true shade of each cake of the chest.
func (e end) tones(w work, chest []int) []int {
	list := make([]int, len(chest))
	for i, x := range chest {
		list[i] = e.of(w.tones[x])
	}
	return list
}

// distance returns how far the true shades of the two cakes are apart in all truths. There must be such cakes, and not be the same one.
func (w work) distance(p pair) Range {
	apart, isKnown := w.apart[p]
	if !isKnown { // To ask for it takes long: once is enough.
		r, _ := cake.Apart(w.Cut, p.one, p.other) // The cut has a truth and these cakes, so that there is no error.
		apart = Range(r)
		w.apart[p] = apart
	}
	return apart
}

// together returns whether the two cakes go together.
func (w work) together(p pair) int {
	apart := w.distance(p)
	switch {
	case apart.Hi <= w.Spread:
		return Always
	case apart.Lo > w.Spread:
		return Never
	}
	return Perhaps
}

func (w work) label(chest []int) Range {
	low, high := end{Range.low}.tones(w, chest), end{Range.high}.tones(w, chest)
	return Range{minimum(low[0], low[1:]...), slices.Max(high)}
}

// isSure reports whether the chest is sure.
func (w work) isSure(chest []int) bool {
	if label := w.label(chest); label.Hi > label.Lo+w.Width {
		return false
	}
	for i, one := range chest {
		goesWith := func(other int) bool { return w.together(pair{other, one}) == Always }
		if !every(chest[:i], goesWith) {
			return false
		}
	}
	return true
}

// chests returns all chests, lexicographically.
func (w work) chests() iter.Seq[[]int] {
	return func(yield func([]int) bool) {
		var chest []int
		var fill func(from int) bool
		fill = func(from int) bool {
			if len(chest) == w.Size {
				return yield(slices.Clone(chest))
			}
			for x := from; w.hasCake(x); x++ {
				chest = append(chest, x)
				if !fill(x + 1) {
					return false
				}
				chest = chest[:len(chest)-1]
			}
			return true
		}
		fill(0)
	}
}

// used says of each cake whether it is in a chest.
type used [api.MaxCakeCakes]bool

// with returns u with the cakes of the chests.
func (u used) with(chests ...[]int) used {
	for _, chest := range chests {
		for _, x := range chest {
			u[x] = true
		}
	}
	return u
}

// without returns u without the cakes of the chest.
func (u used) without(chest []int) used {
	for _, x := range chest {
		u[x] = false
	}
	return u
}

// packings returns all packings, lexicographically.
func (w work) packings() iter.Seq[[][]int] {
	return func(yield func([][]int) bool) {
		var sure [][]int
		for chest := range w.chests() {
			if w.isSure(chest) {
				sure = append(sure, chest)
			}
		}
		var extend func(packing [][]int, in used, from int) bool
		extend = func(packing [][]int, in used, from int) bool {
			if !yield(slices.Clone(packing)) {
				return false
			}
			for i := from; i < len(sure); i++ {
				isFree := in.without(sure[i]) == in
				if isFree && !extend(append(packing, sure[i]), in.with(sure[i]), i+1) {
					return false
				}
			}
			return true
		}
		extend(nil, used{}, 0)
	}
}

func (w work) isPacking(chests [][]int) bool {
	for packing := range w.packings() {
		if slices.EqualFunc(packing, chests, slices.Equal) {
			return true
		}
	}
	return false
}

// best returns the best packing.
func (w work) best() [][]int {
	var best [][]int
	for packing := range w.packings() {
		if len(packing) > len(best) { // The first of those that have as many stays.
			best = packing
		}
	}
	return best
}

// leastSpread returns the Spread for so many chests, if there is one.
func (w work) leastSpread(many int) (spread int, ok bool) {
search:
	for n := range api.MaxChestSpread + 1 {
		w.Spread = n
		for packing := range w.packings() {
			if len(packing) >= many {
				spread, ok = n, true
				break search
			}
		}
	}
	return spread, ok
}

func every[T any](list []T, ok func(T) bool) bool {
	for _, x := range list {
		if !ok(x) {
			return false
		}
	}
	return true
}

func minimum(first int, others ...int) int {
	for _, n := range others {
		first = min(first, n)
	}
	return first
}
