package steep

import (
	"iter"
	"slices"

	"anil/api"
)

// warmths has the warmth of each hour, and 0 for the hours that the steep lacks.
type warmths [api.MaxSteepLast + 1]int

// fulls has the Full of each vat, and 0 for the vats that the steep lacks.
type fulls [api.MaxSteepVats]int

// truth is a Truth in arrays, so that a copy of it shares no memory with it.
type truth struct {
	warm  warmths
	spoil int
	full  fulls
}

func (t truth) is(other truth) bool {
	return t.warm == other.warm && t.spoil == other.spoil && t.full == other.full
}

// work is a steep at work, with its truths if it was opened.
type work struct {
	Steep
	truths []truth
}

// open checks the steep, and finds its truths.
func open(s Steep) (work, api.Errno) {
	if e := CheckSteep(s); e != api.OK {
		return work{}, e
	}
	w := work{Steep: s}
	for t := range w.allTruths() {
		if w.isTruth(t) {
			w.truths = append(w.truths, t)
		}
	}
	return w, api.OK
}

// openTrue is open for the calls that have no errors between those of the steep and ErrFalse.
func openTrue(s Steep) (work, api.Errno) {
	w, e := open(s)
	if e == api.OK && len(w.truths) == 0 {
		return work{}, api.ErrFalse
	}
	return w, e
}

// openVat is open for the calls that name a vat, and perhaps hours of it, which are asked about before the truths are.
func openVat(s Steep, vat int, hours ...int) (work, api.Errno) {
	w, e := open(s)
	switch {
	case e != api.OK:
		return work{}, e
	case !w.hasVat(vat) || !every(hours, func(hour int) bool { return w.hasHour(vat, hour) }):
		return work{}, api.ErrRange
	case len(w.truths) == 0:
		return work{}, api.ErrFalse
	}
	return w, api.OK
}

// isValid reports whether the steep is valid, except for its sizes.
func (w work) isValid() bool {
	return 0 <= w.Last && len(w.Warm) == w.Last+1 && 1 <= w.Per && w.Per <= api.MaxSteepPer &&
		every(w.Warm, isWarm) && w.Spoil.isUpTo(api.MaxSteepSpoil) && every(w.Vats, w.isVat) && every(w.Smells, w.isSmell)
}

func isWarm(r Range) bool { return r.isUpTo(api.MaxSteepWarm) }

func (w work) isVat(v Vat) bool {
	return 0 <= v.Begin && v.Begin <= w.Last && v.Full.isUpTo(api.MaxSteepFull) && 0 <= v.Need && v.Need <= api.MaxSteepFull
}

func (w work) isSmell(s Smell) bool {
	return w.hasVat(s.Vat) && w.hasHour(s.Vat, s.Hour) && Raw <= s.Kind && s.Kind <= Spoiled
}

func (w work) hasVat(vat int) bool { return 0 <= vat && vat < len(w.Vats) }

// hasHour reports whether the hour is from the vat's Begin to Last. There must be such a vat.
func (w work) hasHour(vat, hour int) bool { return w.Vats[vat].Begin <= hour && hour <= w.Last }

// hoursOf returns how many hours there are from the vat's Begin to Last.
func (w work) hoursOf(vat int) int { return w.Last - w.Vats[vat].Begin + 1 }

// isUpTo reports whether r is a range of numbers from 0 to most.
func (r Range) isUpTo(most int) bool { return 0 <= r.Lo && r.Lo <= r.Hi && r.Hi <= most }

// unknown is a number of a truth, with the range that it is in.
type unknown struct {
	number *int
	in     Range
}

func (u unknown) isIn() bool { return u.in.Lo <= *u.number && *u.number <= u.in.Hi }

// unknowns returns all numbers of t, in the order in which they are chosen.
func (w work) unknowns(t *truth) []unknown {
	var list []unknown
	for h, r := range w.Warm {
		list = append(list, unknown{&t.warm[h], r})
	}
	list = append(list, unknown{&t.spoil, w.Spoil})
	for v, x := range w.Vats {
		list = append(list, unknown{&t.full[v], x.Full})
	}
	return list
}

// size returns how many truths there are, whether the smells are right in them or not.
func (w work) size() int {
	many := 1
	for _, u := range w.unknowns(&truth{}) {
		many *= u.in.Hi - u.in.Lo + 1
	}
	return many
}

// toTruth makes a truth of t, if it is one, whether the smells are right in it or not.
func (w work) toTruth(t Truth) (made truth, ok bool) {
	if len(t.Warm) != len(w.Warm) || len(t.Full) != len(w.Vats) {
		return truth{}, false
	}
	copy(made.warm[:], t.Warm)
	made.spoil = t.Spoil
	copy(made.full[:], t.Full)
	if !every(w.unknowns(&made), unknown.isIn) {
		return truth{}, false
	}
	return made, true
}

// allTruths returns all truths, whether the smells are right in them or not.
func (w work) allTruths() iter.Seq[truth] {
	return func(yield func(truth) bool) {
		var t truth
		list := w.unknowns(&t)
		var choose func(next int) bool
		choose = func(next int) bool {
			if next == len(list) {
				return yield(t)
			}
			u := list[next]
			for n := u.in.Lo; n <= u.in.Hi; n++ {
				*u.number = n
				if !choose(next + 1) {
					return false
				}
			}
			return true
		}
		choose(0)
	}
}

func (w work) warmth(t truth, vat, hour int) int {
	sum := 0
	for _, n := range t.warm[w.Vats[vat].Begin : hour+1] {
		sum += n
	}
	return sum
}

func (w work) blueOut(t truth, vat, hour int) int {
	return minimum(w.Per*w.warmth(t, vat, hour), t.full[vat])
}

func (w work) kind(t truth, vat, hour int) int {
	switch {
	case w.warmth(t, vat, hour) > t.spoil:
		return Spoiled
	case w.blueOut(t, vat, hour) < w.Vats[vat].Need:
		return Raw
	}
	return Ripe
}

func (w work) isRight(t truth, s Smell) bool { return w.kind(t, s.Vat, s.Hour) == s.Kind }

// isTruth reports whether t is a truth of the steep.
func (w work) isTruth(t truth) bool {
	return every(w.Smells, func(s Smell) bool { return w.isRight(t, s) })
}

// measure is what is so of a vat after an hour in a truth.
type measure struct {
	of func(w work, t truth, vat, hour int) int
}

// hourly returns the measure after each hour from the vat's Begin to Last.
func (m measure) hourly(w work, t truth, vat int) []int {
	list := make([]int, w.hoursOf(vat))
	for i := range w.hoursOf(vat) {
		list[i] = m.of(w, t, vat, w.Vats[vat].Begin+i)
	}
	return list
}

// bounds returns the range of the measure in all truths, after each hour from the vat's Begin to Last. There must be a truth.
func (m measure) bounds(w work, vat int) []Range {
	var list []Range
	for _, n := range m.hourly(w, w.truths[0], vat) {
		list = append(list, Range{n, n})
	}
	for _, t := range w.truths[1:] {
		for i, n := range m.hourly(w, t, vat) {
			list[i] = Range{minimum(list[i].Lo, n), max(list[i].Hi, n)}
		}
	}
	return list
}

// kindsOf returns in how many truths a smell at the vat would find each kind after each hour.
func (w work) kindsOf(vat int) map[Smell]int {
	truths := map[Smell]int{}
	for _, t := range w.truths {
		for i, kind := range (measure{work.kind}).hourly(w, t, vat) {
			truths[Smell{vat, w.Vats[vat].Begin + i, kind}]++
		}
	}
	return truths
}

// verdict returns whether the vat is ripe after the hour. There must be a truth.
func (w work) verdict(truths map[Smell]int, vat, hour int) int {
	switch truths[Smell{vat, hour, Ripe}] {
	case 0:
		return Never
	case len(w.truths):
		return Always
	}
	return Perhaps
}

// goodHours returns the good hours of the vat, if it has any. There must be a truth.
func (w work) goodHours(vat int) (good Range, ok bool) {
	truths := w.kindsOf(vat)
	for i := range w.hoursOf(vat) {
		hour := w.Vats[vat].Begin + i
		if w.verdict(truths, vat, hour) != Always {
			continue
		}
		if !ok {
			good.Lo = hour
		}
		good.Hi, ok = hour, true
	}
	return good, ok
}

// bestSmell returns the smell to ask for, and what it leaves. There must be a vat, and a truth.
func (w work) bestSmell() (vat, hour, left int) {
	left = len(w.truths) + 1
	for v, x := range w.Vats {
		truths := w.kindsOf(v)
		for i := range w.hoursOf(v) {
			h := x.Begin + i
			// The first vat, and its first hour, stay: a later smell must leave fewer.
			if n := max(truths[Smell{v, h, Raw}], truths[Smell{v, h, Ripe}], truths[Smell{v, h, Spoiled}]); n < left {
				vat, hour, left = v, h, n
			}
		}
	}
	return vat, hour, left
}

// wrongOfAll returns for each truth the smells that are not right in it.
func (w work) wrongOfAll() [][]int {
	var all [][]int
	for t := range w.allTruths() {
		var wrong []int
		for i, s := range w.Smells {
			if !w.isRight(t, s) {
				wrong = append(wrong, i)
			}
		}
		all = append(all, wrong)
	}
	return all
}

func (w work) smallestSet() []int {
	all := w.wrongOfAll()
	var smallest []int
search:
	for many := range len(w.Smells) + 1 {
		for set := range allSets(len(w.Smells), many) {
			isLeft := func(smell int) bool { return slices.Contains(set, smell) }
			for _, wrong := range all {
				if every(wrong, isLeft) {
					smallest = set
					break search
				}
			}
		}
	}
	return smallest
}

// allSets returns all increasing lists of so many numbers from 0 to below most, lexicographically.
func allSets(most, many int) iter.Seq[[]int] {
	return func(yield func([]int) bool) {
		var set []int
		var choose func(from int) bool
		choose = func(from int) bool {
			if len(set) == many {
				return yield(slices.Clone(set))
			}
			for n := from; n < most; n++ {
				set = append(set, n)
				if !choose(n + 1) {
					return false
				}
				set = set[:len(set)-1]
			}
			return true
		}
		choose(0)
	}
}

func every[T any](list []T, ok func(T) bool) bool {
	for _, x := range list {
		if !ok(x) {
			return false
		}
	}
	return true
}

func minimum(first int, others ...int) int {
	for _, n := range others {
		first = min(first, n)
	}
	return first
}
