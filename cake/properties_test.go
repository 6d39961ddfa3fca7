package cake_test

import (
	"slices"
	"testing"

	"anil/api"
	"anil/cake"
)

// The promises P5.7 to P5.15, asked of package cake alone.

// answered fails the test if a call that must have a result has an error instead.
func answered(t *testing.T, what string, c cake.Cut, e api.Errno) {
	t.Helper()
	if e != api.OK {
		t.Fatalf("%s of %v: %v", what, c, e)
	}
}

func whoseOf(t *testing.T, c cake.Cut) [][]int {
	t.Helper()
	l, e := cake.Whose(c)
	answered(t, "Whose", c, e)
	return l
}

func tonesOf(t *testing.T, c cake.Cut) []cake.Range {
	t.Helper()
	l, e := cake.Tones(c)
	answered(t, "Tones", c, e)
	return l
}

func apartOf(t *testing.T, c cake.Cut, one, other int) cake.Range {
	t.Helper()
	r, e := cake.Apart(c, one, other)
	answered(t, "Apart", c, e)
	return r
}

func sameOf(t *testing.T, c cake.Cut, one, other int) int {
	t.Helper()
	n, e := cake.Same(c, one, other)
	answered(t, "Same", c, e)
	return n
}

func inOf(t *testing.T, c cake.Cut, of, grower int) int {
	t.Helper()
	n, e := cake.In(c, of, grower)
	answered(t, "In", c, e)
	return n
}

func leaveOf(t *testing.T, c cake.Cut) []int {
	t.Helper()
	l, e := cake.Leave(c)
	answered(t, "Leave", c, e)
	return l
}

// proved returns all truths of the cut, as ProveTruth finds them.
func proved(c cake.Cut) (out []cake.Lot) {
	for _, l := range allLots(c) {
		if cake.ProveTruth(c, l) {
			out = append(out, l)
		}
	}
	return out
}

// played returns the wrong looks of each lot in which the counts are right, as Play says them.
func played(t *testing.T, c cake.Cut) (out [][]int) {
	t.Helper()
	for _, l := range allLots(c) {
		counts, wrong, e := cake.Play(c, l)
		answered(t, "Play", c, e)
		isRight := true
		for b, n := range counts {
			isRight = isRight && c.Boilings[b].Cut.Lo <= n && n <= c.Boilings[b].Cut.Hi
		}
		if isRight {
			out = append(out, wrong)
		}
	}
	return out
}

// hasTruth reports whether the cut has a truth, as Whose says it.
func hasTruth(c cake.Cut) bool {
	_, e := cake.Whose(c)
	return e == api.OK
}

// canBeCounted reports whether the counts of the cut are right in some lot, as Leave says it.
func canBeCounted(c cake.Cut) bool {
	_, e := cake.Leave(c)
	return e == api.OK
}

// trueCuts returns the cuts of the list that have a truth.
func trueCuts() (out []cake.Cut) {
	for _, c := range append(cuts(), three(), grained(1)) {
		if len(truthsOf(c)) > 0 {
			out = append(out, c)
		}
	}
	return out
}

// pairs returns all pairs of different cakes.
func pairs(c cake.Cut) (out [][2]int) {
	for i := range c.Cakes {
		for j := range c.Cakes {
			if i != j {
				out = append(out, [2]int{i, j})
			}
		}
	}
	return out
}

func isWithin(inner, outer cake.Range) bool { return outer.Lo <= inner.Lo && inner.Hi <= outer.Hi }

func includes(outer, inner []int) bool {
	for _, n := range inner {
		if !slices.Contains(outer, n) {
			return false
		}
	}
	return true
}

// reaches checks that a number is within the range in each truth, and that both ends are reached.
func reaches(t *testing.T, what string, c cake.Cut, r cake.Range, truths []cake.Lot, number func(l cake.Lot) int) {
	t.Helper()
	low, high := false, false
	for _, l := range truths {
		n := number(l)
		if n < r.Lo || n > r.Hi {
			t.Errorf("%v: %s is %d in %v, not within %v", c, what, n, l, r)
		}
		low, high = low || n == r.Lo, high || n == r.Hi
	}
	if !low || !high {
		t.Errorf("%v: %s does not reach an end of %v", c, what, r)
	}
}

// isSaid checks that something is so in as many truths as the verdict says.
func isSaid(t *testing.T, what string, c cake.Cut, verdict int, truths []cake.Lot, isSo func(l cake.Lot) bool) {
	t.Helper()
	yes, no := slices.ContainsFunc(truths, isSo), slices.ContainsFunc(truths, func(l cake.Lot) bool { return !isSo(l) })
	if (verdict == always) != !no || (verdict == never) != !yes || (verdict == perhaps) != (yes && no) {
		t.Errorf("%v: %s: the verdict is %d, but yes is %v, no %v", c, what, verdict, yes, no)
	}
}

// P5.7
func TestInEachTruth(t *testing.T) {
	for _, c := range trueCuts() {
		truths := proved(c)
		if len(truths) == 0 {
			t.Fatalf("%v has a truth, but none is proved", c)
		}
		whose, tones := whoseOf(t, c), tonesOf(t, c)
		for i := range c.Cakes {
			for b := range c.Boilings {
				is := slices.ContainsFunc(truths, func(l cake.Lot) bool { return l.Of[i] == b })
				if slices.Contains(whose[i], b) != is {
					t.Errorf("%v: the cake %d is of %v, but of %d is %v", c, i, whose[i], b, is)
				}
			}
			if !slices.IsSorted(whose[i]) || len(slices.Compact(slices.Clone(whose[i]))) != len(whose[i]) {
				t.Errorf("%v: %v does not rise", c, whose[i])
			}
			reaches(t, "a true shade", c, tones[i], truths, func(l cake.Lot) int { return l.Shades[l.Of[i]] })
			for g := range 10 {
				isSaid(t, "In", c, inOf(t, c, i, g), truths, func(l cake.Lot) bool { return slices.Contains(c.Boilings[l.Of[i]].Plants, g) })
			}
		}
		for _, p := range pairs(c) {
			isSaid(t, "Same", c, sameOf(t, c, p[0], p[1]), truths, func(l cake.Lot) bool { return l.Of[p[0]] == l.Of[p[1]] })
			reaches(t, "how far two are apart", c, apartOf(t, c, p[0], p[1]), truths, func(l cake.Lot) int {
				one, other := l.Shades[l.Of[p[0]]], l.Shades[l.Of[p[1]]]
				return max(one, other) - min(one, other)
			})
		}
		if l := leaveOf(t, c); len(l) > 0 {
			t.Errorf("%v: %v need not be left out", c, l)
		}
	}
}

// P5.8
func TestSameBoiling(t *testing.T) {
	apart, chains := 0, 0
	for _, c := range trueCuts() {
		whose := whoseOf(t, c)
		for _, p := range pairs(c) {
			i, j := p[0], p[1]
			same := sameOf(t, c, i, j)
			if r := apartOf(t, c, i, j); same == always && r != to(0, 0) {
				t.Errorf("%v: %d and %d are of the same boiling, but %v apart", c, i, j, r)
			}
			if !slices.ContainsFunc(whose[i], func(b int) bool { return slices.Contains(whose[j], b) }) {
				apart++
				if same != never {
					t.Errorf("%v: %d and %d are of %v, but the verdict is %d", c, i, j, whose, same)
				}
			}
			for k := range c.Cakes {
				if k != i && k != j && same == always && sameOf(t, c, j, k) == always {
					chains++
					if n := sameOf(t, c, i, k); n != always {
						t.Errorf("%v: %d and %d, and %d and %d, but %d and %d are of the same boiling with the verdict %d", c, i, j, j, k, i, k, n)
					}
				}
			}
		}
	}
	if apart < 50 || chains < 50 {
		t.Errorf("only %d pairs can have no boiling both, and only %d times three are of one: the cuts say too little", apart, chains)
	}
}

// P5.9
func TestPlants(t *testing.T) {
	for _, c := range trueCuts() {
		for i, of := range whoseOf(t, c) {
			for g := range 10 {
				in := 0
				for _, b := range of {
					if slices.Contains(c.Boilings[b].Plants, g) {
						in++
					}
				}
				if v := inOf(t, c, i, g); (v == always) != (in == len(of)) || (v == never) != (in == 0) {
					t.Errorf("%v: the plant of %d is in %d of the boilings %v of %d, but the verdict is %d", c, g, in, of, i, v)
				}
			}
		}
	}
}

// atLeast checks that of the cut z, which allows no more than c, all is known that is known of c.
func atLeast(t *testing.T, c, z cake.Cut) {
	t.Helper()
	if !hasTruth(z) {
		return
	}
	if !hasTruth(c) {
		t.Errorf("%v has a truth, but %v has none", z, c)
		return
	}
	wide, narrow, more, fewer := tonesOf(t, c), tonesOf(t, z), whoseOf(t, c), whoseOf(t, z)
	for i := range c.Cakes {
		if !includes(more[i], fewer[i]) || !isWithin(narrow[i], wide[i]) {
			t.Errorf("%v: the cake %d is of %v, %v, though of %v, %v in %v", z, i, fewer[i], narrow[i], more[i], wide[i], c)
		}
		for g := range 10 {
			stays(t, "In", c, z, inOf(t, c, i, g), inOf(t, z, i, g))
		}
	}
	for _, p := range pairs(c) {
		if r, s := apartOf(t, z, p[0], p[1]), apartOf(t, c, p[0], p[1]); !isWithin(r, s) {
			t.Errorf("%v: %v are %v apart, though %v in %v", z, p, r, s, c)
		}
		stays(t, "Same", c, z, sameOf(t, c, p[0], p[1]), sameOf(t, z, p[0], p[1]))
	}
}

func stays(t *testing.T, what string, c, z cake.Cut, was, is int) {
	t.Helper()
	if was != perhaps && is != was {
		t.Errorf("%v: %s has the verdict %d, though %d in %v", z, what, is, was, c)
	}
}

// P5.10
func TestBetterEye(t *testing.T) {
	stayed := 0
	for _, c := range append(cuts(), three(), untrue()) {
		if !canBeCounted(c) {
			continue
		}
		var all []cake.Cut
		for eye := range c.Eye {
			all = append(all, changed(c, func(c *cake.Cut) { c.Eye = eye }))
		}
		for i, x := range c.Cakes {
			for k := range x.Grains {
				all = append(all, changed(c, func(c *cake.Cut) { c.Cakes[i].Grains = slices.Delete(c.Cakes[i].Grains, k, k+1) }))
			}
		}
		out := len(leaveOf(t, c))
		for _, z := range all {
			if fewer := len(leaveOf(t, z)); fewer < out {
				t.Errorf("%v: only %d are left out, but %d of %v", z, fewer, out, c)
			}
			atLeast(t, c, z)
			if hasTruth(z) {
				stayed++
			}
		}
	}
	if stayed < 100 {
		t.Errorf("only %d times a truth is left: the cuts say too little", stayed)
	}
}

// P5.11
func TestWiderCount(t *testing.T) {
	for _, c := range append(cuts(), three(), untrue(), uncounted()) {
		var all []cake.Cut
		widen := func(r cake.Range, most int, set func(c *cake.Cut, r cake.Range)) {
			for _, w := range []cake.Range{to(max(0, r.Lo-1), r.Hi), to(r.Lo, min(most, r.Hi+1)), to(max(0, r.Lo-1), min(most, r.Hi+1))} {
				all = append(all, changed(c, func(c *cake.Cut) { set(c, w) }))
			}
		}
		for b, x := range c.Boilings {
			widen(x.Cut, 6, func(c *cake.Cut, r cake.Range) { c.Boilings[b].Cut = r })
			widen(x.Shade, 9, func(c *cake.Cut, r cake.Range) { c.Boilings[b].Shade = r })
		}
		for _, z := range all {
			atLeast(t, z, c)
			if !canBeCounted(c) {
				continue
			}
			if more, out := len(leaveOf(t, z)), len(leaveOf(t, c)); more > out {
				t.Errorf("%v: %d are left out, but only %d of %v", z, more, out, c)
			}
		}
	}
}

// P5.12
func TestTried(t *testing.T) {
	for _, c := range trueCuts() {
		if len(c.Cakes) == 0 {
			continue
		}
		first, left, e := cake.Try(c)
		answered(t, "Try", c, e)
		truths := proved(c)
		for i := range c.Cakes {
			most := 0
			for b := range c.Boilings {
				n := 0
				for _, l := range truths {
					if l.Of[i] == b {
						n++
					}
				}
				most = max(most, n)
			}
			if i == first && most != left || most < left || i < first && most == left {
				t.Errorf("Try of %v: %d, %d, but a trial of %d leaves %d", c, first, left, i, most)
			}
		}
	}
}

// numbers returns the numbers from 0 to below many.
func numbers(many int) (out []int) {
	for n := range many {
		out = append(out, n)
	}
	return out
}

// exchanged returns the numbers from 0 to below many, with two of them exchanged.
func exchanged(many, one, other int) []int {
	out := numbers(many)
	out[one], out[other] = other, one
	return out
}

// P5.13
func TestCakesExchanged(t *testing.T) {
	for _, c := range append(cuts(), three(), untrue(), uncounted()) {
		for _, p := range pairs(c) {
			z := changed(c, func(z *cake.Cut) {
				z.Cakes[p[0]], z.Cakes[p[1]] = c.Cakes[p[1]], c.Cakes[p[0]]
			})
			bothSay(t, c, z, exchanged(len(c.Cakes), p[0], p[1]), numbers(len(c.Boilings)))
		}
	}
}

// P5.13
func TestBoilingsExchanged(t *testing.T) {
	for _, c := range append(cuts(), three(), untrue(), uncounted()) {
		for one := range c.Boilings {
			for other := range one {
				z := changed(c, func(z *cake.Cut) {
					z.Boilings[one], z.Boilings[other] = c.Boilings[other], c.Boilings[one]
				})
				bothSay(t, c, z, numbers(len(c.Cakes)), exchanged(len(c.Boilings), one, other))
			}
		}
	}
}

// bothSay checks that the same is said of both cuts, but for the numbers of the cakes and boilings: those of z are given for each of c.
func bothSay(t *testing.T, c, z cake.Cut, cakes, boilings []int) {
	t.Helper()
	if !canBeCounted(c) || !hasTruth(c) {
		if canBeCounted(c) != canBeCounted(z) || hasTruth(c) != hasTruth(z) {
			t.Errorf("%v has a truth, or a count, but not %v", c, z)
		}
		if canBeCounted(c) && len(leaveOf(t, c)) != len(leaveOf(t, z)) {
			t.Errorf("Leave of %v: %v, but of %v: %v", c, leaveOf(t, c), z, leaveOf(t, z))
		}
		return
	}
	whose, others, tones, shades := whoseOf(t, c), whoseOf(t, z), tonesOf(t, c), tonesOf(t, z)
	for i, of := range whose {
		var want []int
		for _, b := range of {
			want = append(want, boilings[b])
		}
		slices.Sort(want)
		if k := cakes[i]; !slices.Equal(others[k], want) || shades[k] != tones[i] {
			t.Errorf("%v: the cake %d is of %v, %v, not %v, %v", z, k, others[k], shades[k], want, tones[i])
		}
		for g := range 10 {
			if n, m := inOf(t, c, i, g), inOf(t, z, cakes[i], g); n != m {
				t.Errorf("In of %v, %d, %d: %d, but exchanged %d", c, i, g, n, m)
			}
		}
	}
	for _, p := range pairs(c) {
		i, j := cakes[p[0]], cakes[p[1]]
		if r, s := apartOf(t, c, p[0], p[1]), apartOf(t, z, i, j); r != s || sameOf(t, c, p[0], p[1]) != sameOf(t, z, i, j) {
			t.Errorf("%v: %v are %v apart, but exchanged %v; or not the same", c, p, r, s)
		}
	}
}

// P5.14
func TestBeforeTheFirst(t *testing.T) {
	for _, c := range append(cuts(), untrue()) {
		wrongs := played(t, c)
		n, e := cake.First(c)
		switch e {
		case api.ErrNone:
			if !hasTruth(c) {
				t.Errorf("%v has no truth, and no first wrong look", c)
			}
			continue
		case api.ErrFail:
			if len(wrongs) > 0 {
				t.Errorf("%v: the counts are right in some lot, but First fails", c)
			}
			continue
		}
		answered(t, "First", c, e)
		// The looks before the first wrong one are right in a lot if all wrong ones of it are n or after n.
		before := slices.ContainsFunc(wrongs, func(wrong []int) bool { return len(wrong) == 0 || slices.Min(wrong) >= n })
		with := slices.ContainsFunc(wrongs, func(wrong []int) bool { return len(wrong) == 0 || slices.Min(wrong) > n })
		if !before || with {
			t.Errorf("First of %v: %d, but before it is %v, with it %v", c, n, before, with)
		}
	}
}

// P5.15
func TestLeftOut(t *testing.T) {
	for _, c := range append(cuts(), untrue()) {
		if !canBeCounted(c) {
			continue
		}
		wrongs := played(t, c)
		l := leaveOf(t, c)
		sets := allSets(len(c.Cakes))
		at := slices.IndexFunc(sets, func(set []int) bool { return slices.Equal(set, l) })
		if at < 0 {
			t.Errorf("%v: %v is no set of looks", c, l)
			continue
		}
		if !canBeLeft(wrongs, l) {
			t.Errorf("%v: without %v no lot is right", c, l)
		}
		for _, set := range sets[:at] {
			if canBeLeft(wrongs, set) {
				t.Errorf("%v: %v can be left out, and is before %v", c, set, l)
			}
		}
	}
}
