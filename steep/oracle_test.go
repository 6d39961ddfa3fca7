package steep_test

import (
	"slices"

	"anil/steep"
)

// What the chapter defines, once more and as directly as possible: by going through everything.

const (
	raw, ripe, spoiled     = steep.Raw, steep.Ripe, steep.Spoiled
	always, never, perhaps = steep.Always, steep.Never, steep.Perhaps
)

func list(l ...int) []int { return l }

func to(low, high int) steep.Range { return steep.Range{Lo: low, Hi: high} }

func ranges(l ...int) (out []steep.Range) {
	for i := 0; i < len(l); i += 2 {
		out = append(out, to(l[i], l[i+1]))
	}
	return out
}

func smell(in, hour, kind int) steep.Smell { return steep.Smell{Vat: in, Hour: hour, Kind: kind} }

// two is the steep of the chapter's examples, with smells.
func two(l ...steep.Smell) steep.Steep {
	return steep.Steep{
		Last: 3, Per: 3, Warm: ranges(2, 3, 2, 2, 1, 2, 3, 3), Spoil: to(7, 8),
		Vats:   []steep.Vat{{Begin: 0, Full: to(20, 22), Need: 14}, {Begin: 1, Full: to(9, 9), Need: 9}},
		Smells: l,
	}
}

// untrue has no truth, though it is valid.
func untrue() steep.Steep { return two(smell(0, 1, ripe), smell(0, 3, ripe)) }

// empty has no vats, and no smells: its one hour is warm, or is not.
func empty() steep.Steep { return steep.Steep{Per: 1, Warm: ranges(0, 1)} }

// largest has as much of everything as the limits allow, and 2000 truths.
func largest(l ...steep.Smell) steep.Steep {
	return steep.Steep{
		Last: 5, Per: 9, Warm: ranges(0, 9, 9, 9, 0, 4, 0, 0, 8, 9, 9, 9), Spoil: to(18, 27),
		Vats:   []steep.Vat{{Begin: 0, Full: to(98, 99), Need: 99}, {Begin: 5, Full: to(99, 99), Need: 81}, {Begin: 2, Full: to(0, 0), Need: 0}, {Begin: 1, Full: to(81, 81), Need: 1}},
		Smells: l,
	}
}

func clone(s steep.Steep) steep.Steep {
	s.Warm, s.Vats, s.Smells = slices.Clone(s.Warm), slices.Clone(s.Vats), slices.Clone(s.Smells)
	return s
}

// with returns the steep with more smells behind its own.
func with(s steep.Steep, more ...steep.Smell) steep.Steep {
	s = clone(s)
	s.Smells = append(s.Smells, more...)
	return s
}

// without returns the steep without the smells of the list.
func without(s steep.Steep, out []int) steep.Steep {
	all := s.Smells
	s = clone(s)
	s.Smells = nil
	for i, x := range all {
		if !slices.Contains(out, i) {
			s.Smells = append(s.Smells, x)
		}
	}
	return s
}

func truthOf(spoil int, warm, full []int) steep.Truth {
	return steep.Truth{Warm: warm, Spoil: spoil, Full: full}
}

// allChoices returns all lists with one number of each range.
func allChoices(l []steep.Range) [][]int {
	out := [][]int{{}}
	for _, r := range l {
		var next [][]int
		for _, c := range out {
			for n := r.Lo; n <= r.Hi; n++ {
				next = append(next, append(slices.Clone(c), n))
			}
		}
		out = next
	}
	return out
}

// allTruths returns all truths, whether the smells are right in them or not.
func allTruths(s steep.Steep) (out []steep.Truth) {
	var full []steep.Range
	for _, v := range s.Vats {
		full = append(full, v.Full)
	}
	for _, w := range allChoices(s.Warm) {
		for _, f := range allChoices(full) {
			for n := s.Spoil.Lo; n <= s.Spoil.Hi; n++ {
				out = append(out, truthOf(n, w, f))
			}
		}
	}
	return out
}

func warmthOf(s steep.Steep, t steep.Truth, in, hour int) int {
	sum := 0
	for h := s.Vats[in].Begin; h <= hour; h++ {
		sum += t.Warm[h]
	}
	return sum
}

func outOf(s steep.Steep, t steep.Truth, in, hour int) int {
	if n := s.Per * warmthOf(s, t, in, hour); n < t.Full[in] {
		return n
	}
	return t.Full[in]
}

func kindOf(s steep.Steep, t steep.Truth, in, hour int) int {
	if warmthOf(s, t, in, hour) > t.Spoil {
		return spoiled
	}
	if outOf(s, t, in, hour) < s.Vats[in].Need {
		return raw
	}
	return ripe
}

// wrongIn returns the smells that are not right in the truth.
func wrongIn(s steep.Steep, t steep.Truth) (out []int) {
	for i, x := range s.Smells {
		if kindOf(s, t, x.Vat, x.Hour) != x.Kind {
			out = append(out, i)
		}
	}
	return out
}

func truthsOf(s steep.Steep) (out []steep.Truth) {
	for _, t := range allTruths(s) {
		if len(wrongIn(s, t)) == 0 {
			out = append(out, t)
		}
	}
	return out
}

// hoursOf returns the hours from the vat's Begin to Last.
func hoursOf(s steep.Steep, in int) (out []int) {
	for h := s.Vats[in].Begin; h <= s.Last; h++ {
		out = append(out, h)
	}
	return out
}

func wantOut(s steep.Steep, truths []steep.Truth, in int) (out []steep.Range) {
	for _, h := range hoursOf(s, in) {
		var all []int
		for _, t := range truths {
			all = append(all, outOf(s, t, in, h))
		}
		out = append(out, to(slices.Min(all), slices.Max(all)))
	}
	return out
}

// countOf returns in how many of the truths the vat is of the kind after the hour.
func countOf(s steep.Steep, truths []steep.Truth, x steep.Smell) int {
	n := 0
	for _, t := range truths {
		if kindOf(s, t, x.Vat, x.Hour) == x.Kind {
			n++
		}
	}
	return n
}

func wantRight(s steep.Steep, truths []steep.Truth, in, hour int) int {
	switch n := countOf(s, truths, smell(in, hour, ripe)); {
	case n == len(truths):
		return always
	case n > 0:
		return perhaps
	}
	return never
}

// wantGood returns the good hours of the vat, one by one.
func wantGood(s steep.Steep, truths []steep.Truth, in int) (out []int) {
	for _, h := range hoursOf(s, in) {
		if wantRight(s, truths, in, h) == always {
			out = append(out, h)
		}
	}
	return out
}

// wantLeft returns what a smell at the vat after the hour leaves.
func wantLeft(s steep.Steep, truths []steep.Truth, in, hour int) int {
	return max(countOf(s, truths, smell(in, hour, raw)), countOf(s, truths, smell(in, hour, ripe)), countOf(s, truths, smell(in, hour, spoiled)))
}

func wantAsk(s steep.Steep, truths []steep.Truth) (in, hour, left int) {
	left = len(truths) + 1
	for v := range s.Vats {
		for _, h := range hoursOf(s, v) {
			if n := wantLeft(s, truths, v, h); n < left {
				in, hour, left = v, h, n
			}
		}
	}
	return in, hour, left
}

// allSets returns all increasing lists of smells, the shorter ones first, those as long lexicographically.
func allSets(smells int) (out [][]int) {
	for bits := range 1 << smells {
		set := []int{}
		for i := range smells {
			if bits>>i&1 == 1 {
				set = append(set, i)
			}
		}
		out = append(out, set)
	}
	slices.SortFunc(out, func(a, b []int) int {
		if len(a) != len(b) {
			return len(a) - len(b)
		}
		return slices.Compare(a, b)
	})
	return out
}

func wantLeave(s steep.Steep) []int {
	for _, set := range allSets(len(s.Smells)) {
		if len(truthsOf(without(s, set))) > 0 {
			return set
		}
	}
	return nil
}

// wantFirst returns the first wrong smell; false if there is none.
func wantFirst(s steep.Steep) (int, bool) {
	for n := range s.Smells {
		z := clone(s)
		z.Smells = z.Smells[:n+1]
		if len(truthsOf(z)) == 0 {
			return n, true
		}
	}
	return 0, false
}

// allSmells returns all smells that there can be at the vats, right or not.
func allSmells(s steep.Steep) (out []steep.Smell) {
	for v := range s.Vats {
		for _, h := range hoursOf(s, v) {
			out = append(out, smell(v, h, raw), smell(v, h, ripe), smell(v, h, spoiled))
		}
	}
	return out
}

// dice makes numbers that look mixed, and are the same whenever the tests run.
type dice struct{ state uint64 }

// roll returns a number from low to high.
func (d *dice) roll(low, high int) int {
	d.state = d.state*6364136223846793005 + 1442695040888963407
	return low + int(d.state>>33)%(high-low+1)
}

// around returns a range of one to three numbers near n, from 0 to most, of a size that the room still has.
func (d *dice) around(n, most int, room *int) steep.Range {
	low := min(max(0, n), most)
	high := min(low+d.roll(0, 2), most)
	for high > low && high-low+1 > *room {
		high--
	}
	*room /= high - low + 1
	return to(low, high)
}

// steeps returns small steeps of all shapes; with about a third of them a smell or more is false.
func steeps() (out []steep.Steep) {
	d := &dice{state: 1}
	for i := range 180 {
		s := mixedSteep(d, i%6, i/6%5)
		for range i % 5 {
			s.Smells = append(s.Smells, mixedSmells(d, s)...)
		}
		out = append(out, s)
	}
	// Some with smells that contradict each other in many ways.
	for range 30 {
		s := mixedSteep(d, 4, 4)
		all := allSmells(s)
		for range 5 {
			s.Smells = append(s.Smells, all[d.roll(0, len(all)-1)])
		}
		out = append(out, s)
	}
	return out
}

// mixedSteep returns a steep without smells that has at most 60 truths; some of its vats are ripe after some hours.
func mixedSteep(d *dice, last, vats int) steep.Steep {
	room := 60
	s := steep.Steep{Last: last, Per: d.roll(1, 5)}
	sum := 0
	for range last + 1 {
		n := d.roll(0, 4)
		s.Warm = append(s.Warm, d.around(n, 9, &room))
		sum += n
	}
	s.Spoil = d.around(sum-d.roll(-1, 4), 99, &room)
	for range vats {
		need := min(s.Per*d.roll(0, max(1, sum)), 95)
		s.Vats = append(s.Vats, steep.Vat{Begin: max(0, d.roll(-last, last)), Full: d.around(need+d.roll(-2, 4), 99, &room), Need: need})
	}
	return s
}

// mixedSmells returns one smell that is mostly right in the same truth, or none if there is no vat.
func mixedSmells(d *dice, s steep.Steep) []steep.Smell {
	if len(s.Vats) == 0 {
		return nil
	}
	all := allTruths(s)
	in := d.roll(0, len(s.Vats)-1)
	hour := d.roll(s.Vats[in].Begin, s.Last)
	kind := kindOf(s, all[len(all)/2], in, hour)
	if d.roll(0, 4) == 0 {
		kind = d.roll(raw, spoiled)
	}
	return []steep.Smell{smell(in, hour, kind)}
}
