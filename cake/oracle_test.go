package cake_test

import (
	"slices"

	"anil/cake"
)

// What the chapter defines, once more and as directly as possible: by going through everything.

const always, never, perhaps = cake.Always, cake.Never, cake.Perhaps

func list(l ...int) []int { return l }

func to(low, high int) cake.Range { return cake.Range{Lo: low, Hi: high} }

func ranges(l ...int) (out []cake.Range) {
	for i := 0; i < len(l); i += 2 {
		out = append(out, to(l[i], l[i+1]))
	}
	return out
}

func boiling(shade cake.Range, grain int, cut cake.Range, plants ...int) cake.Boiling {
	return cake.Boiling{Shade: shade, Grain: grain, Cut: cut, Plants: plants}
}

// look is a cake as it is seen.
func look(seen int, grains ...int) cake.Cake { return cake.Cake{Seen: seen, Grains: grains} }

func lot(shades, of []int) cake.Lot { return cake.Lot{Shades: shades, Of: of} }

// three is the cut of the chapter's examples: it has three boilings.
func three() cake.Cut {
	return cake.Cut{
		Eye: 1,
		Boilings: []cake.Boiling{
			boiling(to(3, 4), 0, to(2, 2), 0, 1),
			boiling(to(5, 6), 1, to(1, 2), 1),
			boiling(to(5, 5), 0, to(0, 1), 2),
		},
		Cakes: []cake.Cake{look(3, 0), look(5, 0, 1), look(4, 0), look(6, 1)},
	}
}

// changed returns the cut with a change, which leaves the cut itself as it is.
func changed(c cake.Cut, change func(c *cake.Cut)) cake.Cut {
	c = clone(c)
	change(&c)
	return c
}

// untrue has no truth, though the counts are right in some lot.
func untrue() cake.Cut {
	return changed(three(), func(c *cake.Cut) { c.Eye = 0 })
}

// uncounted has no lot in which the counts are right, though it is valid.
func uncounted() cake.Cut {
	return changed(three(), func(c *cake.Cut) { c.Boilings[1].Cut = to(3, 6) })
}

// unboiled has cakes, but no boilings, so that it has no lot.
func unboiled() cake.Cut { return cake.Cut{Cakes: []cake.Cake{look(0, 0), look(1, 1)}} }

// largest has as much of everything as the limits allow, and 5832 lots; no number from there to 6000 can be had.
func largest() cake.Cut {
	c := cake.Cut{Eye: 3}
	for i := range 3 {
		c.Boilings = append(c.Boilings, boiling(to(3*i+2, 3*i+3), 5-i, to(0, 6), list(0, 1, 2, 3, 4, 5, 6, 7, 8, 9)[i:]...))
	}
	for i := range 6 {
		c.Cakes = append(c.Cakes, look(i+2, 0, 1, 2, 3, 4, 5))
	}
	return c
}

func clone(c cake.Cut) cake.Cut {
	c.Boilings, c.Cakes = slices.Clone(c.Boilings), slices.Clone(c.Cakes)
	for i, b := range c.Boilings {
		c.Boilings[i].Plants = slices.Clone(b.Plants)
	}
	for i, x := range c.Cakes {
		c.Cakes[i].Grains = slices.Clone(x.Grains)
	}
	return c
}

// allChoices returns all lists with one number of each range, lexicographically.
func allChoices(l []cake.Range) [][]int {
	out := [][]int{{}}
	for _, r := range l {
		var next [][]int
		for _, c := range out {
			for n := r.Lo; n <= r.Hi; n++ {
				next = append(next, append(slices.Clone(c), n))
			}
		}
		out = next
	}
	return out
}

func allLots(c cake.Cut) (out []cake.Lot) {
	var tones []cake.Range
	for _, b := range c.Boilings {
		tones = append(tones, b.Shade)
	}
	for _, shades := range allChoices(tones) {
		for _, of := range allChoices(slices.Repeat(ranges(0, len(c.Boilings)-1), len(c.Cakes))) {
			out = append(out, lot(slices.Clone(shades), of))
		}
	}
	return out
}

func countsIn(c cake.Cut, l cake.Lot) (out []int) {
	for b := range c.Boilings {
		n := 0
		for _, of := range l.Of {
			if of == b {
				n++
			}
		}
		out = append(out, n)
	}
	return out
}

func isCounted(c cake.Cut, l cake.Lot) bool {
	for b, n := range countsIn(c, l) {
		if n < c.Boilings[b].Cut.Lo || n > c.Boilings[b].Cut.Hi {
			return false
		}
	}
	return true
}

func toneIn(l cake.Lot, of int) int { return l.Shades[l.Of[of]] }

// wrongIn returns the cakes whose look is not right in the lot.
func wrongIn(c cake.Cut, l cake.Lot) (out []int) {
	for i, x := range c.Cakes {
		away := x.Seen - toneIn(l, i)
		if away > c.Eye || -away > c.Eye || !slices.Contains(x.Grains, c.Boilings[l.Of[i]].Grain) {
			out = append(out, i)
		}
	}
	return out
}

// countedOf returns all lots in which the counts are right.
func countedOf(c cake.Cut) (out []cake.Lot) {
	for _, l := range allLots(c) {
		if isCounted(c, l) {
			out = append(out, l)
		}
	}
	return out
}

func truthsOf(c cake.Cut) (out []cake.Lot) {
	for _, l := range countedOf(c) {
		if len(wrongIn(c, l)) == 0 {
			out = append(out, l)
		}
	}
	return out
}

func wantWhose(c cake.Cut, truths []cake.Lot) (out [][]int) {
	for i := range c.Cakes {
		var of []int
		for b := range c.Boilings {
			if slices.ContainsFunc(truths, func(l cake.Lot) bool { return l.Of[i] == b }) {
				of = append(of, b)
			}
		}
		out = append(out, of)
	}
	return out
}

// boundsOf returns the range of a number that each truth has.
func boundsOf(truths []cake.Lot, number func(l cake.Lot) int) cake.Range {
	var all []int
	for _, l := range truths {
		all = append(all, number(l))
	}
	return to(slices.Min(all), slices.Max(all))
}

func wantTones(c cake.Cut, truths []cake.Lot) (out []cake.Range) {
	for i := range c.Cakes {
		out = append(out, boundsOf(truths, func(l cake.Lot) int { return toneIn(l, i) }))
	}
	return out
}

func wantApart(truths []cake.Lot, one, other int) cake.Range {
	return boundsOf(truths, func(l cake.Lot) int {
		n := toneIn(l, one) - toneIn(l, other)
		return max(n, -n)
	})
}

// verdictOf returns whether something is so in all truths, in none, or in some.
func verdictOf(truths []cake.Lot, isSo func(l cake.Lot) bool) int {
	n := 0
	for _, l := range truths {
		if isSo(l) {
			n++
		}
	}
	switch n {
	case len(truths):
		return always
	case 0:
		return never
	}
	return perhaps
}

func wantIn(c cake.Cut, truths []cake.Lot, of, grower int) int {
	return verdictOf(truths, func(l cake.Lot) bool { return slices.Contains(c.Boilings[l.Of[of]].Plants, grower) })
}

func wantSame(truths []cake.Lot, one, other int) int {
	return verdictOf(truths, func(l cake.Lot) bool { return l.Of[one] == l.Of[other] })
}

// wantLeft returns what a trial of the cake leaves.
func wantLeft(c cake.Cut, truths []cake.Lot, of int) int {
	most := 0
	for b := range c.Boilings {
		n := 0
		for _, l := range truths {
			if l.Of[of] == b {
				n++
			}
		}
		most = max(most, n)
	}
	return most
}

func wantTry(c cake.Cut, truths []cake.Lot) (first, left int) {
	for i := range c.Cakes {
		if n := wantLeft(c, truths, i); i == 0 || n < left {
			first, left = i, n
		}
	}
	return first, left
}

// allSets returns all increasing lists of cakes, the shorter ones first, those as long lexicographically.
func allSets(cakes int) (out [][]int) {
	for bits := range 1 << cakes {
		set := []int{}
		for i := range cakes {
			if bits>>i&1 == 1 {
				set = append(set, i)
			}
		}
		out = append(out, set)
	}
	slices.SortFunc(out, func(a, b []int) int {
		if len(a) != len(b) {
			return len(a) - len(b)
		}
		return slices.Compare(a, b)
	})
	return out
}

// canBeLeft reports whether the looks can be left out together: there is one of the lists of wrong looks of which all are in the set.
func canBeLeft(wrongs [][]int, set []int) bool {
	return slices.ContainsFunc(wrongs, func(wrong []int) bool {
		return !slices.ContainsFunc(wrong, func(i int) bool { return !slices.Contains(set, i) })
	})
}

// wrongsOf returns the wrong looks of each lot in which the counts are right.
func wrongsOf(c cake.Cut) (out [][]int) {
	for _, l := range countedOf(c) {
		out = append(out, wrongIn(c, l))
	}
	return out
}

// wantLeave returns the smallest set; false if no looks can be left out.
func wantLeave(c cake.Cut) ([]int, bool) {
	wrongs := wrongsOf(c)
	for _, set := range allSets(len(c.Cakes)) {
		if canBeLeft(wrongs, set) {
			return set, true
		}
	}
	return nil, false
}

// wantFirst returns the first wrong look; false if there is none.
func wantFirst(c cake.Cut) (int, bool) {
	wrongs := wrongsOf(c)
	for n := range c.Cakes {
		later := []int{} // with the looks 0 to n, those after n do not count
		for i := n + 1; i < len(c.Cakes); i++ {
			later = append(later, i)
		}
		if !canBeLeft(wrongs, later) {
			return n, true
		}
	}
	return 0, false
}

// dice makes numbers that look mixed, and are the same whenever the tests run.
type dice struct{ state uint64 }

// roll returns a number from low to high.
func (d *dice) roll(low, high int) int {
	d.state = d.state*6364136223846793005 + 1442695040888963407
	return low + int(d.state>>33)%(high-low+1)
}

// around returns a range that has n, and at most as many smaller and greater numbers as wide says, from 0 to most.
func (d *dice) around(n, wide, most int) cake.Range {
	return to(max(0, n-d.roll(0, wide)), min(most, n+d.roll(0, wide)))
}

// some returns an increasing list of numbers from 0 to most, each with the same chance in ten.
func (d *dice) some(most, chance int) (out []int) {
	for n := range most + 1 {
		if d.roll(1, 10) <= chance {
			out = append(out, n)
		}
	}
	return out
}

// cuts returns small cuts of all shapes; about a third of them have no truth.
func cuts() (out []cake.Cut) {
	d := &dice{state: 1}
	for i := range 300 {
		boilings := 1 + (i%5+1)/2
		c := mixedCut(d, boilings, min(i/5%6, 7-boilings))
		for range max(0, d.roll(-2, 2)) {
			blur(d, &c)
		}
		out = append(out, c)
	}
	// Some in which nothing that is seen has to do with the boilings.
	for i := range 40 {
		c := mixedCut(d, 2+i%2, 2+i/2%3)
		for k := range c.Cakes {
			c.Cakes[k] = look(d.roll(0, 9), d.some(2, 6)...)
		}
		out = append(out, c)
	}
	return append(out, cake.Cut{}, cake.Cut{Eye: 3}, unboiled(), uncounted(), changed(unboiled(), func(c *cake.Cut) { c.Cakes = c.Cakes[:1] }))
}

// mixedCut returns a cut that has a truth.
func mixedCut(d *dice, boilings, cakes int) cake.Cut {
	c := cake.Cut{Eye: d.roll(0, 7) / 3}
	var l cake.Lot
	base := d.roll(0, 9)
	for range boilings {
		l.Shades = append(l.Shades, min(9, base+d.roll(0, 2)))
	}
	for range cakes {
		l.Of = append(l.Of, d.roll(0, boilings-1))
	}
	counts := countsIn(cake.Cut{Boilings: make([]cake.Boiling, boilings)}, l)
	for b, n := range l.Shades {
		c.Boilings = append(c.Boilings, boiling(d.around(n, 1, 9), d.roll(0, 5)/3, d.around(counts[b], 2, 6), d.some(4, 4)...))
	}
	for _, b := range l.Of {
		grains := append(d.some(2, 4), c.Boilings[b].Grain)
		slices.Sort(grains)
		seen := l.Shades[b] + d.roll(-c.Eye, c.Eye)
		c.Cakes = append(c.Cakes, look(min(9, max(0, seen)), slices.Compact(grains)...))
	}
	return c
}

// blur makes something of the cut false, perhaps.
func blur(d *dice, c *cake.Cut) {
	b := d.roll(0, len(c.Boilings)-1)
	switch k := d.roll(0, 3); {
	case k == 0 && d.roll(0, 3) == 0:
		c.Boilings[b].Cut = d.around(d.roll(0, len(c.Cakes)), 1, 6)
	case k == 1:
		c.Boilings[b].Grain = d.roll(0, 2)
	case len(c.Cakes) > 0:
		c.Cakes[d.roll(0, len(c.Cakes)-1)] = look(d.roll(0, 9), d.some(2, 5)...)
	}
}
