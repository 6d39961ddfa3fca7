package chest_test

import (
	"slices"

	"anil/cake"
	"anil/chest"
)

// What the chapter defines, once more and as directly as possible: by going through everything.

const always, never, perhaps = chest.Always, chest.Never, chest.Perhaps

func list(l ...int) []int { return l }

func lists(l ...[]int) [][]int { return l }

func to(low, high int) chest.Range { return chest.Range{Lo: low, Hi: high} }

// span returns a range of package cake.
func span(low, high int) cake.Range { return cake.Range{Lo: low, Hi: high} }

func boiling(shade cake.Range, grain int, cut cake.Range) cake.Boiling {
	return cake.Boiling{Shade: shade, Grain: grain, Cut: cut, Plants: list(grain, 7)}
}

// look is a cake as it is seen.
func look(seen int, grains ...int) cake.Cake { return cake.Cake{Seen: seen, Grains: grains} }

// four is the pack of the chapter's examples, which has four cakes, with another Size, Spread and Width.
func four(size, spread, width int) chest.Pack {
	return chest.Pack{
		Cut: cake.Cut{
			Eye: 1,
			Boilings: []cake.Boiling{
				{Shade: span(3, 4), Grain: 0, Cut: span(2, 2), Plants: list(0, 1)},
				{Shade: span(5, 6), Grain: 1, Cut: span(1, 2), Plants: list(1)},
				{Shade: span(5, 5), Grain: 0, Cut: span(0, 1), Plants: list(2)},
			},
			Cakes: []cake.Cake{look(3, 0), look(5, 0, 1), look(4, 0), look(6, 1)},
		},
		Size: size, Spread: spread, Width: width,
	}
}

// example is the pack of the chapter's examples.
func example() chest.Pack { return four(2, 1, 2) }

// untrue has a cut that has no truth.
func untrue() chest.Pack { return changed(example(), func(p *chest.Pack) { p.Cut.Eye = 0 }) }

// known has cakes of which the true shades are these, surely: each is of a boiling of its own, or shares that of another one.
func known(size, spread, width int, shades ...int) chest.Pack {
	p := chest.Pack{Size: size, Spread: spread, Width: width}
	for _, n := range slices.Compact(slices.Sorted(slices.Values(shades))) {
		p.Cut.Boilings = append(p.Cut.Boilings, boiling(span(n, n), 0, span(0, 6)))
	}
	for _, n := range shades {
		p.Cut.Cakes = append(p.Cut.Cakes, look(n, 0))
	}
	return p
}

// bare has cakes, but no boilings, so that it has no truth if there are cakes.
func bare(cakes int) chest.Pack {
	return chest.Pack{Cut: cake.Cut{Cakes: make([]cake.Cake, cakes)}, Size: 2}
}

// largest has as many boilings and cakes as the limits allow, and 5832 lots; no number from there to 6000 can be had.
func largest(size, spread, width int) chest.Pack {
	p := chest.Pack{Cut: cake.Cut{Eye: 3}, Size: size, Spread: spread, Width: width}
	for i := range 3 {
		p.Cut.Boilings = append(p.Cut.Boilings, boiling(span(2*i+1, 2*i+2), i, span(0, 6)))
	}
	for i := range 6 {
		p.Cut.Cakes = append(p.Cut.Cakes, look(i+2, 0, 1, 2))
	}
	return p
}

func clone(p chest.Pack) chest.Pack {
	p.Cut.Boilings, p.Cut.Cakes = slices.Clone(p.Cut.Boilings), slices.Clone(p.Cut.Cakes)
	for i, b := range p.Cut.Boilings {
		p.Cut.Boilings[i].Plants = slices.Clone(b.Plants)
	}
	for i, x := range p.Cut.Cakes {
		p.Cut.Cakes[i].Grains = slices.Clone(x.Grains)
	}
	return p
}

// changed returns the pack with a change, which leaves the pack itself as it is.
func changed(p chest.Pack, change func(p *chest.Pack)) chest.Pack {
	p = clone(p)
	change(&p)
	return p
}

// allChoices returns all lists with one number of each range, lexicographically.
func allChoices(l []cake.Range) [][]int {
	out := [][]int{{}}
	for _, r := range l {
		var next [][]int
		for _, c := range out {
			for n := r.Lo; n <= r.Hi; n++ {
				next = append(next, append(slices.Clone(c), n))
			}
		}
		out = next
	}
	return out
}

// truths has the true shade of each cake in each truth.
type truths [][]int

func truthsOf(p chest.Pack) (out truths) {
	var tones []cake.Range
	for _, b := range p.Cut.Boilings {
		tones = append(tones, b.Shade)
	}
	of := slices.Repeat([]cake.Range{span(0, len(p.Cut.Boilings)-1)}, len(p.Cut.Cakes))
	for _, l := range allChoices(append(tones, of...)) {
		x := cake.Lot{Shades: l[:len(tones)], Of: l[len(tones):]}
		if isTruth(p.Cut, x) {
			shades := []int{}
			for _, b := range x.Of {
				shades = append(shades, x.Shades[b])
			}
			out = append(out, shades)
		}
	}
	return out
}

func isTruth(c cake.Cut, l cake.Lot) bool {
	counts, wrong, e := cake.Play(c, l)
	if e != 0 || len(wrong) > 0 {
		return false
	}
	for b, n := range counts {
		if n < c.Boilings[b].Cut.Lo || n > c.Boilings[b].Cut.Hi {
			return false
		}
	}
	return true
}

func distance(a, b int) int { return max(a-b, b-a) }

func wantTogether(p chest.Pack, all truths, one, other int) int {
	n := 0
	for _, shades := range all {
		if distance(shades[one], shades[other]) <= p.Spread {
			n++
		}
	}
	switch n {
	case len(all):
		return always
	case 0:
		return never
	}
	return perhaps
}

func wantLabel(all truths, cakes []int) chest.Range {
	r := to(99, -99)
	for _, shades := range all {
		for _, i := range cakes {
			r = to(min(r.Lo, shades[i]), max(r.Hi, shades[i]))
		}
	}
	return r
}

// wantOdd returns the first cake of the chest that may show something else than what is said; false if none may.
func wantOdd(all truths, cakes []int, said chest.Range) (int, bool) {
	for _, i := range cakes {
		for _, shades := range all {
			if shades[i] < said.Lo || shades[i] > said.Hi {
				return i, true
			}
		}
	}
	return 0, false
}

func isSure(p chest.Pack, all truths, cakes []int) bool {
	for _, one := range cakes {
		for _, other := range cakes {
			if one != other && wantTogether(p, all, one, other) != always {
				return false
			}
		}
	}
	label := wantLabel(all, cakes)
	return label.Hi-label.Lo <= p.Width
}

// allChests returns all chests, lexicographically.
func allChests(p chest.Pack) (out [][]int) {
	for bits := range 1 << len(p.Cut.Cakes) {
		var cakes []int
		for i := range p.Cut.Cakes {
			if bits>>i&1 == 1 {
				cakes = append(cakes, i)
			}
		}
		if len(cakes) == p.Size {
			out = append(out, cakes)
		}
	}
	slices.SortFunc(out, slices.Compare)
	return out
}

// allPackings returns all lists of the chests without a cake twice, in increasing order of their first cakes; the chests need not be sure.
func allPackings(chests [][]int) [][][]int {
	out := [][][]int{nil}
	for i := 0; i < len(out); i++ {
		for _, c := range chests {
			before := slices.Concat(out[i]...)
			isUsed := slices.ContainsFunc(c, func(x int) bool { return slices.Contains(before, x) })
			if !isUsed && (len(out[i]) == 0 || out[i][len(out[i])-1][0] < c[0]) {
				out = append(out, append(slices.Clone(out[i]), c))
			}
		}
	}
	return out
}

// surePackings returns all packings.
func surePackings(p chest.Pack, all truths) [][][]int {
	var sure [][]int
	for _, c := range allChests(p) {
		if isSure(p, all, c) {
			sure = append(sure, c)
		}
	}
	return allPackings(sure)
}

// isBefore reports whether the cakes of one packing are lexicographically before those of another one.
func isBefore(one, other [][]int) bool {
	return slices.Compare(slices.Concat(one...), slices.Concat(other...)) < 0
}

func wantMost(p chest.Pack, all truths) [][]int {
	var best [][]int
	for _, l := range surePackings(p, all) {
		if len(l) > len(best) || len(l) == len(best) && isBefore(l, best) {
			best = l
		}
	}
	return best
}

// leftBy returns the cakes that are in none of the chests.
func leftBy(p chest.Pack, chests [][]int) (out []int) {
	for i := range p.Cut.Cakes {
		if !slices.Contains(slices.Concat(chests...), i) {
			out = append(out, i)
		}
	}
	return out
}

// wantNeed returns the Spread for so many chests; false if there is none.
func wantNeed(p chest.Pack, all truths, many int) (int, bool) {
	for p.Spread = 0; p.Spread <= 9; p.Spread++ {
		if len(wantMost(p, all)) >= many {
			return p.Spread, true
		}
	}
	return 0, false
}

// dice makes numbers that look mixed, and are the same whenever the tests run.
type dice struct{ state uint64 }

// roll returns a number from low to high.
func (d *dice) roll(low, high int) int {
	d.state = d.state*6364136223846793005 + 1442695040888963407
	return low + int(d.state>>33)%(high-low+1)
}

// around returns a range that has n, and at most as many smaller and greater numbers as wide says, from 0 to most.
func (d *dice) around(n, wide, most int) cake.Range {
	return span(max(0, n-d.roll(0, wide)), min(most, n+d.roll(0, wide)))
}

// some returns an increasing list of numbers from 0 to most, each with the same chance in ten.
func (d *dice) some(most, chance int) (out []int) {
	for n := range most + 1 {
		if d.roll(1, 10) <= chance {
			out = append(out, n)
		}
	}
	return out
}

// packs returns small packs of all shapes; about a quarter of them have no truth.
func packs() (out []chest.Pack) {
	d := &dice{state: 1}
	for i := range 240 {
		p := mixedPack(d, 1+(i%5+1)/2, i/5%7)
		if i%3 == 0 {
			blur(d, &p.Cut)
		}
		out = append(out, p)
	}
	// Some in which all shades are known.
	for i := range 60 {
		low, step := d.roll(0, 3), 1+i%4/2
		three := list(low, low+step, low+2*step+i%3)
		var shades []int
		for range d.roll(4, 6) {
			shades = append(shades, three[d.roll(0, 2)])
		}
		out = append(out, known(2+i%5/4, d.roll(0, 3), d.roll(1, 6), shades...))
	}
	// Some of which the first chest may have to be left.
	for n := 1; n <= 8; n++ {
		more := list(n-1, n, n+1)[d.roll(0, 2):][:d.roll(0, 1)]
		out = append(out, known(2, 1, d.roll(1, 3), append(list(n, n, n+1, n-1), more...)...))
	}
	return append(out, bare(0), bare(1), bare(3), known(3, 9, 9), known(2, 0, 0, 4), known(3, 9, 9, 0, 9))
}

// mixedPack returns a pack that has a truth.
func mixedPack(d *dice, boilings, cakes int) chest.Pack {
	p := chest.Pack{Cut: cake.Cut{Eye: d.roll(0, 5) / 2}, Size: 2 + d.roll(0, 2)/2, Spread: d.roll(0, 4), Width: d.roll(1, 6)}
	room := 600 // how many lots there may be
	for range cakes {
		room /= boilings
	}
	base := d.roll(0, 9)
	var of []int
	for range cakes {
		of = append(of, d.roll(0, boilings-1))
	}
	var shades []int
	for b := range boilings {
		n := min(9, base+d.roll(0, 3))
		shades = append(shades, n)
		shade := d.around(n, 1, 9)
		if size := shade.Hi - shade.Lo + 1; size <= room {
			room /= size
		} else {
			shade = span(n, n)
		}
		counted := 0
		for _, x := range of {
			if x == b {
				counted++
			}
		}
		p.Cut.Boilings = append(p.Cut.Boilings, boiling(shade, d.roll(0, 5)/2, d.around(counted, 1, 6)))
	}
	for _, b := range of {
		grains := append(d.some(2, 3), p.Cut.Boilings[b].Grain)
		slices.Sort(grains)
		seen := shades[b] + d.roll(-p.Cut.Eye, p.Cut.Eye)
		p.Cut.Cakes = append(p.Cut.Cakes, look(min(9, max(0, seen)), slices.Compact(grains)...))
	}
	return p
}

// blur makes something of the cut false, perhaps.
func blur(d *dice, c *cake.Cut) {
	b := d.roll(0, len(c.Boilings)-1)
	switch k := d.roll(0, 5); {
	case k == 0:
		c.Boilings[b].Cut = d.around(d.roll(0, len(c.Cakes)), 1, 6)
	case k == 1:
		c.Boilings[b].Grain = d.roll(0, 2)
	case len(c.Cakes) > 0:
		c.Cakes[d.roll(0, len(c.Cakes)-1)] = look(d.roll(0, 9), d.some(2, 5)...)
	}
}
