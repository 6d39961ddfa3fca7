package vat_test

import (
	"slices"

	"anil/vat"
)

// What the chapter defines, once more and as directly as possible: by going through everything.

func list(l ...int) []int { return l }

func to(low, high int) vat.Range { return vat.Range{Lo: low, Hi: high} }

func ranges(l ...int) (out []vat.Range) {
	for i := 0; i < len(l); i += 2 {
		out = append(out, to(l[i], l[i+1]))
	}
	return out
}

func sample(in, low, high int) vat.Sample { return vat.Sample{Vat: in, Blue: to(low, high)} }

// three is the yard of the chapter's examples, with samples.
func three(l ...vat.Sample) vat.Yard {
	return vat.Yard{Fields: ranges(3, 5, 2, 3, 0, 1), Vats: [][]int{list(4, 0, 2), list(1, 3, 0), list(2, 2, 1)}, Samples: l}
}

// untrue has no truth, though it is valid.
func untrue() vat.Yard { return three(sample(0, 18, 18), sample(1, 9, 9)) }

// largest has as much of everything as the limits allow.
func largest(l ...vat.Sample) vat.Yard {
	return vat.Yard{
		Fields:  ranges(0, 19, 11, 20, 1, 10, 20, 20, 0, 0),
		Vats:    [][]int{list(9, 9, 9, 9, 9), list(1, 0, 9, 0, 3), list(0, 9, 1, 2, 0), list(3, 3, 3, 0, 9)},
		Samples: l,
	}
}

func clone(y vat.Yard) vat.Yard {
	out := vat.Yard{Fields: slices.Clone(y.Fields), Samples: slices.Clone(y.Samples)}
	for _, v := range y.Vats {
		out.Vats = append(out.Vats, slices.Clone(v))
	}
	return out
}

func same(y, z vat.Yard) bool {
	return slices.Equal(y.Fields, z.Fields) && slices.Equal(y.Samples, z.Samples) &&
		slices.EqualFunc(y.Vats, z.Vats, func(a, b []int) bool { return slices.Equal(a, b) })
}

// with returns the yard with more samples behind its own.
func with(y vat.Yard, more ...vat.Sample) vat.Yard {
	out := clone(y)
	out.Samples = append(out.Samples, more...)
	return out
}

// without returns the yard without the samples of the list.
func without(y vat.Yard, out []int) vat.Yard {
	z := clone(y)
	z.Samples = nil
	for i, s := range y.Samples {
		if !slices.Contains(out, i) {
			z.Samples = append(z.Samples, s)
		}
	}
	return z
}

func allBlues(y vat.Yard) [][]int {
	out := [][]int{{}}
	for _, f := range y.Fields {
		var next [][]int
		for _, b := range out {
			for n := f.Lo; n <= f.Hi; n++ {
				next = append(next, append(slices.Clone(b), n))
			}
		}
		out = next
	}
	return out
}

func blueOf(y vat.Yard, blues []int, in int) int {
	sum := 0
	for f := range y.Fields {
		sum += y.Vats[in][f] * blues[f]
	}
	return sum
}

func isTruth(y vat.Yard, blues []int) bool {
	for _, s := range y.Samples {
		if n := blueOf(y, blues, s.Vat); n < s.Blue.Lo || n > s.Blue.Hi {
			return false
		}
	}
	return true
}

func truthsOf(y vat.Yard) (out [][]int) {
	for _, b := range allBlues(y) {
		if isTruth(y, b) {
			out = append(out, b)
		}
	}
	return out
}

// ends returns the smallest and the greatest of what is so in the truths.
func ends(truths [][]int, of func(blues []int) int) vat.Range {
	var all []int
	for _, t := range truths {
		all = append(all, of(t))
	}
	return to(slices.Min(all), slices.Max(all))
}

func wantMore(y vat.Yard, truths [][]int, one, other int) int {
	never, always := true, true
	for _, t := range truths {
		if blueOf(y, t, one) > blueOf(y, t, other) {
			never = false
		} else {
			always = false
		}
	}
	switch {
	case always:
		return vat.Always
	case never:
		return vat.Never
	}
	return vat.Perhaps
}

// wantLeft returns what a sample of the vat leaves.
func wantLeft(y vat.Yard, truths [][]int, in int) int {
	most := 0
	for _, t := range truths {
		n := 0
		for _, u := range truths {
			if blueOf(y, t, in) == blueOf(y, u, in) {
				n++
			}
		}
		most = max(most, n)
	}
	return most
}

func wantAsk(y vat.Yard, truths [][]int) (in, left int) {
	left = len(truths) + 1
	for v := range y.Vats {
		if n := wantLeft(y, truths, v); n < left {
			in, left = v, n
		}
	}
	return in, left
}

// wantNeeds returns the bundles that the vat needs; false if those that are allowed are not enough.
func wantNeeds(y vat.Yard, truths [][]int, in, field, blue int) (int, bool) {
	for n := 0; n <= 9; n++ {
		if leastWith(y, truths, field, in, n) >= blue {
			return n, true
		}
	}
	return 0, false
}

// leastWith returns the minimum, in all truths, of the blue of the vat with further bundles of the field.
func leastWith(y vat.Yard, truths [][]int, field, in, many int) int {
	return ends(truths, func(b []int) int { return blueOf(y, b, in) + many*b[field] }).Lo
}

// leastBlue returns the least blue of the spread.
func leastBlue(y vat.Yard, truths [][]int, field int, put []int) int {
	least := leastWith(y, truths, field, 0, put[0])
	for v := range put {
		least = min(least, leastWith(y, truths, field, v, put[v]))
	}
	return least
}

// allPuts returns all spreads of so many bundles, in no order that matters.
func allPuts(vats, many int) (out [][]int) {
	if vats == 1 {
		return [][]int{{many}}
	}
	for n := many; n >= 0; n-- {
		for _, rest := range allPuts(vats-1, many-n) {
			out = append(out, append(list(n), rest...))
		}
	}
	return out
}

func wantSpread(y vat.Yard, truths [][]int, field, many int) (put []int, least int) {
	least = -1
	for _, p := range allPuts(len(y.Vats), many) {
		n := leastBlue(y, truths, field, p)
		if n > least || n == least && slices.Compare(p, put) < 0 {
			put, least = p, n
		}
	}
	return put, least
}

// allSets returns all increasing lists of samples, the shorter ones first, those as long lexicographically.
func allSets(samples int) (out [][]int) {
	for bits := range 1 << samples {
		set := []int{}
		for s := range samples {
			if bits>>s&1 == 1 {
				set = append(set, s)
			}
		}
		out = append(out, set)
	}
	slices.SortFunc(out, func(a, b []int) int {
		if len(a) != len(b) {
			return len(a) - len(b)
		}
		return slices.Compare(a, b)
	})
	return out
}

func wantLeave(y vat.Yard) []int {
	for _, set := range allSets(len(y.Samples)) {
		if len(truthsOf(without(y, set))) > 0 {
			return set
		}
	}
	return nil
}

// wantFirst returns the first wrong sample; false if there is none.
func wantFirst(y vat.Yard) (int, bool) {
	for n := range y.Samples {
		z := clone(y)
		z.Samples = z.Samples[:n+1]
		if len(truthsOf(z)) == 0 {
			return n, true
		}
	}
	return 0, false
}

// dice makes numbers that look mixed, and are the same whenever the tests run.
type dice struct{ state uint64 }

// roll returns a number from low to high.
func (d *dice) roll(low, high int) int {
	d.state = d.state*6364136223846793005 + 1442695040888963407
	return low + int(d.state>>33)%(high-low+1)
}

// yards returns yards of all sizes; with about half of them a sample or more is false.
func yards() (out []vat.Yard) {
	d := &dice{state: 1}
	for i := range 240 {
		y := mixedYard(d, i%6, i/6%5)
		for range i % 6 {
			y.Samples = append(y.Samples, mixedSamples(d, y)...)
		}
		out = append(out, y)
	}
	// Some with samples that contradict each other in many ways.
	for range 40 {
		y := mixedYard(d, 3, 4)
		for range 5 {
			n := d.roll(0, 40)
			y.Samples = append(y.Samples, sample(d.roll(0, 3), n, n+d.roll(0, 3)))
		}
		out = append(out, y)
	}
	return out
}

func mixedYard(d *dice, fields, vats int) (y vat.Yard) {
	for f := range fields {
		low := d.roll(0, 6)
		y.Fields = append(y.Fields, to(low, low+d.roll(0, max(1, 4-f))))
	}
	for range vats {
		var v []int
		for range fields {
			v = append(v, max(0, d.roll(-3, 5)))
		}
		y.Vats = append(y.Vats, v)
	}
	return y
}

// mixedSamples returns one sample that is mostly right with the same blues, or none if there is no vat.
func mixedSamples(d *dice, y vat.Yard) []vat.Sample {
	if len(y.Vats) == 0 {
		return nil
	}
	var middle []int
	for _, f := range y.Fields {
		middle = append(middle, (f.Lo+f.Hi)/2)
	}
	in := d.roll(0, len(y.Vats)-1)
	n := blueOf(y, middle, in)
	if d.roll(0, 4) == 0 {
		n += d.roll(1, 9)
	}
	low := max(0, n-d.roll(0, 2))
	return []vat.Sample{sample(in, low, max(low, n+d.roll(0, 2)))}
}
