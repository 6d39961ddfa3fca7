package steep_test

import (
	"slices"
	"testing"

	"anil/api"
	"anil/steep"
)

// The promises P2.7 to P2.17, asked of package steep alone.

// answered fails the test if a call that must have a result has an error instead.
func answered(t *testing.T, what string, s steep.Steep, e api.Errno) {
	t.Helper()
	if e != api.OK {
		t.Fatalf("%s of %v: %v", what, s, e)
	}
}

func playOf(t *testing.T, s steep.Steep, x steep.Truth) (out, kinds [][]int) {
	t.Helper()
	out, kinds, e := steep.Play(s, x)
	answered(t, "Play", s, e)
	return out, kinds
}

func outsOf(t *testing.T, s steep.Steep, in int) []steep.Range {
	t.Helper()
	l, e := steep.Out(s, in)
	answered(t, "Out", s, e)
	return l
}

func rightOf(t *testing.T, s steep.Steep, in, hour int) int {
	t.Helper()
	n, e := steep.Right(s, in, hour)
	answered(t, "Right", s, e)
	return n
}

// goodOf returns the good hours of the vat, one by one.
func goodOf(t *testing.T, s steep.Steep, in int) (out []int) {
	t.Helper()
	g, e := steep.Good(s, in)
	if e == api.ErrShort {
		return nil
	}
	answered(t, "Good", s, e)
	for h := g.Lo; h <= g.Hi; h++ {
		out = append(out, h)
	}
	return out
}

func leaveOf(t *testing.T, s steep.Steep) []int {
	t.Helper()
	l, e := steep.Leave(s)
	answered(t, "Leave", s, e)
	return l
}

// proved returns all truths of the steep, as ProveTruth finds them.
func proved(s steep.Steep) (out []steep.Truth) {
	for _, x := range allTruths(s) {
		if steep.ProveTruth(s, x) {
			out = append(out, x)
		}
	}
	return out
}

// hasTruth reports whether the steep has a truth, as Stuck says it.
func hasTruth(s steep.Steep) bool {
	_, e := steep.Stuck(s)
	return e == api.OK || e == api.ErrNone
}

// trueSteeps returns the steeps of the list that have a truth.
func trueSteeps() (out []steep.Steep) {
	for _, s := range append(steeps(), two(), two(smell(0, 1, ripe))) {
		if len(truthsOf(s)) > 0 {
			out = append(out, s)
		}
	}
	return out
}

func isWithin(inner, outer steep.Range) bool { return outer.Lo <= inner.Lo && inner.Hi <= outer.Hi }

func includes(outer, inner []int) bool {
	for _, n := range inner {
		if !slices.Contains(outer, n) {
			return false
		}
	}
	return true
}

// P2.7
func TestInEachTruth(t *testing.T) {
	for _, s := range trueSteeps() {
		truths := proved(s)
		if len(truths) == 0 {
			t.Errorf("%v has a truth, but none is proved", s)
		}
		for v := range s.Vats {
			inEachTruth(t, s, truths, v)
		}
		if l := leaveOf(t, s); len(l) > 0 {
			t.Errorf("%v: %v need not be left out", s, l)
		}
	}
}

// inEachTruth checks what is said of the vat.
func inEachTruth(t *testing.T, s steep.Steep, truths []steep.Truth, in int) {
	t.Helper()
	bounds, good := outsOf(t, s, in), goodOf(t, s, in)
	for i, h := range hoursOf(s, in) {
		low, high, ripes := false, false, 0
		for _, x := range truths {
			out, kinds := playOf(t, s, x)
			n, r := out[in][i], bounds[i]
			if n < r.Lo || n > r.Hi {
				t.Errorf("%v: after %d %d is out of the vat %d, which is not within %v", s, h, n, in, r)
			}
			low, high = low || n == r.Lo, high || n == r.Hi
			if kinds[in][i] == ripe {
				ripes++
			}
		}
		if !low || !high {
			t.Errorf("%v: after %d an end of %v is not reached", s, h, bounds[i])
		}
		v := rightOf(t, s, in, h)
		if (v == always) != (ripes == len(truths)) || (v == never) != (ripes == 0) || (v == perhaps) != (0 < ripes && ripes < len(truths)) {
			t.Errorf("%v: after %d the vat %d is ripe in %d truths of %d, but the verdict is %d", s, h, in, ripes, len(truths), v)
		}
		if isGood := slices.Contains(good, h); isGood != (ripes == len(truths)) || isGood != steep.ProveGood(s, in, h) {
			t.Errorf("%v: after %d the vat %d is ripe in %d truths of %d, but the good hours are %v", s, h, in, ripes, len(truths), good)
		}
	}
}

// P2.8
func TestNeverBack(t *testing.T) {
	seen := map[[2]int]bool{}
	for _, s := range append(steeps(), two()) {
		for _, x := range allTruths(s) {
			out, kinds := playOf(t, s, x)
			for v := range s.Vats {
				if !slices.IsSorted(out[v]) {
					t.Errorf("%v, %v: less is out of the vat %d after a later hour: %v", s, x, v, out[v])
				}
				if !slices.IsSorted(kinds[v]) {
					t.Errorf("%v, %v: the kinds of the vat %d go back: %v", s, x, v, kinds[v])
				}
				for i := 1; i < len(kinds[v]); i++ {
					seen[[2]int{kinds[v][i-1], kinds[v][i]}] = true
				}
			}
		}
	}
	if len(seen) < 6 {
		t.Errorf("the steeps have only these steps from kind to kind: %v", seen)
	}
}

// P2.9
func TestWarmer(t *testing.T) {
	for _, s := range append(steeps(), two()) {
		all := allTruths(s)
		for _, x := range all {
			out, kinds := playOf(t, s, x)
			for _, y := range all {
				warmer := noneSmaller(x.Warm, y.Warm) && slices.Equal(x.Full, y.Full) && x.Spoil == y.Spoil
				later := slices.Equal(x.Warm, y.Warm) && slices.Equal(x.Full, y.Full) && x.Spoil <= y.Spoil
				fuller := slices.Equal(x.Warm, y.Warm) && noneSmaller(x.Full, y.Full) && x.Spoil == y.Spoil
				if !warmer && !later && !fuller {
					continue
				}
				outs, others := playOf(t, s, y)
				for v := range s.Vats {
					if (warmer || fuller) && !noneSmaller(out[v], outs[v]) {
						t.Errorf("%v: less is out of %d in %v than in %v", s, v, y, x)
					}
					if warmer && !noneSmaller(kinds[v], others[v]) || later && !noneSmaller(others[v], kinds[v]) {
						t.Errorf("%v: the kinds of %d are %v in %v, but %v in %v", s, v, others[v], y, kinds[v], x)
					}
				}
			}
		}
	}
}

// noneSmaller reports whether no number of the other list is smaller than that of the list one.
func noneSmaller(one, other []int) bool {
	for i := range one {
		if other[i] < one[i] {
			return false
		}
	}
	return true
}

// P2.10
func TestBegunLater(t *testing.T) {
	for _, s := range append(steeps(), two()) {
		if len(s.Vats) == 0 || len(s.Vats) == api.MaxSteepVats {
			continue
		}
		last := len(s.Vats)
		for v := range s.Vats {
			for begin := s.Vats[v].Begin + 1; begin <= s.Last; begin++ {
				z := clone(s)
				z.Vats = append(z.Vats, s.Vats[v])
				z.Vats[last].Begin = begin
				for _, x := range allTruths(z) {
					if x.Full[v] != x.Full[last] {
						continue
					}
					out, kinds := playOf(t, z, x)
					skip := begin - s.Vats[v].Begin
					if !noneSmaller(out[last], out[v][skip:]) || !noneSmaller(kinds[last], kinds[v][skip:]) {
						t.Errorf("%v, %v: the vat %d began later than %d: %v, %v", z, x, last, v, out, kinds)
					}
				}
			}
		}
	}
}

// P2.11
func TestOneMoreSmell(t *testing.T) {
	for _, s := range append(steeps(), two(), two(smell(0, 1, ripe)), untrue()) {
		if len(s.Smells) == api.MaxSteepSmells {
			continue
		}
		out := len(leaveOf(t, s))
		for _, x := range allSmells(s) {
			z := with(s, x)
			if more := len(leaveOf(t, z)); more < out || more > out+1 {
				t.Errorf("%v: with the smell %v %d are left out, not %d", s, x, more, out)
			}
			atLeast(t, s, z)
		}
	}
}

// atLeast checks that of the steep z, which allows no more than s, all is known that is known of s.
func atLeast(t *testing.T, s, z steep.Steep) {
	t.Helper()
	if !hasTruth(z) {
		return
	}
	if !hasTruth(s) {
		t.Errorf("%v has a truth, but %v has none", z, s)
		return
	}
	for v := range s.Vats {
		wide, narrow := outsOf(t, s, v), outsOf(t, z, v)
		good := goodOf(t, z, v)
		if !includes(good, goodOf(t, s, v)) {
			t.Errorf("%v: the good hours of %d are %v, but of %v %v", z, v, good, s, goodOf(t, s, v))
		}
		for i, h := range hoursOf(s, v) {
			if !isWithin(narrow[i], wide[i]) {
				t.Errorf("%v: %v is out of %d after %d, though %v of %v", z, narrow[i], v, h, wide[i], s)
			}
			if n, m := rightOf(t, s, v, h), rightOf(t, z, v, h); n != perhaps && n != m {
				t.Errorf("%v: Right of %d, %d is %d, though %d of %v", z, v, h, m, n, s)
			}
		}
	}
}

// P2.12
func TestWider(t *testing.T) {
	for _, s := range append(steeps(), two(smell(0, 1, ripe)), untrue()) {
		var all []steep.Steep
		widen := func(r steep.Range, most int, set func(z *steep.Steep, r steep.Range)) {
			for _, w := range []steep.Range{to(max(0, r.Lo-1), r.Hi), to(r.Lo, min(most, r.Hi+1)), to(max(0, r.Lo-1), min(most, r.Hi+1))} {
				z := clone(s)
				set(&z, w)
				all = append(all, z)
			}
		}
		for h, r := range s.Warm {
			widen(r, api.MaxSteepWarm, func(z *steep.Steep, r steep.Range) { z.Warm[h] = r })
		}
		widen(s.Spoil, api.MaxSteepSpoil, func(z *steep.Steep, r steep.Range) { z.Spoil = r })
		for v, x := range s.Vats {
			widen(x.Full, api.MaxSteepFull, func(z *steep.Steep, r steep.Range) { z.Vats[v].Full = r })
		}
		out := len(leaveOf(t, s))
		for _, z := range all {
			if more := len(leaveOf(t, z)); more > out {
				t.Errorf("%v: %d are left out, but of %v %d", z, more, s, out)
			}
			atLeast(t, z, s)
		}
	}
}

// P2.13
func TestLessIsNeeded(t *testing.T) {
	stayed := 0
	for _, s := range append(steeps(), two()) {
		s.Smells = nil
		for v, x := range s.Vats {
			good := goodOf(t, s, v)
			stayed += len(good)
			for need := range x.Need {
				z := clone(s)
				z.Vats[v].Need = need
				if !includes(goodOf(t, z, v), good) {
					t.Errorf("%v: the good hours of %d are %v, but with a greater Need %v", z, v, goodOf(t, z, v), good)
				}
			}
			for low := s.Spoil.Lo + 1; low <= s.Spoil.Hi; low++ {
				z := clone(s)
				z.Spoil.Lo = low
				if !includes(goodOf(t, z, v), good) {
					t.Errorf("%v: the good hours of %d are %v, but with a smaller Lo of Spoil %v", z, v, goodOf(t, z, v), good)
				}
			}
		}
	}
	if stayed < 50 {
		t.Errorf("only %d hours are good: the steeps say too little", stayed)
	}
}

// P2.14
func TestAsked(t *testing.T) {
	long := largest()
	long.Warm[0], long.Spoil = to(8, 9), to(27, 28) // not all of its many truths
	for _, s := range append(trueSteeps(), long) {
		if len(s.Vats) == 0 || len(s.Smells) == api.MaxSteepSmells {
			continue
		}
		in, hour, left, e := steep.Ask(s)
		answered(t, "Ask", s, e)
		truths := proved(s)
		for v := range s.Vats {
			for i, h := range hoursOf(s, v) {
				most := leaves(t, s, truths, v, i)
				isBefore := v < in || v == in && h < hour
				if v == in && h == hour && most != left || most < left || isBefore && most == left {
					t.Errorf("Ask of %v: %d, %d, %d, but a smell at %d after %d leaves %d", s, in, hour, left, v, h, most)
				}
			}
		}
	}
}

// leaves returns the maximum of the truths that are left if what is so in a truth of the vat, in its hour number i, is added as a smell.
func leaves(t *testing.T, s steep.Steep, truths []steep.Truth, in, i int) int {
	t.Helper()
	most := 0
	done := map[int]bool{}
	for _, x := range truths {
		_, kinds := playOf(t, s, x)
		kind := kinds[in][i]
		if done[kind] {
			continue
		}
		done[kind] = true
		most = max(most, len(proved(with(s, smell(in, s.Vats[in].Begin+i, kind)))))
	}
	return most
}

// P2.15
func TestExchanged(t *testing.T) {
	for _, s := range append(steeps(), two(smell(0, 1, ripe), smell(1, 2, ripe)), untrue()) {
		for one := range s.Vats {
			for other := range one {
				exchanged(t, s, one, other)
			}
		}
	}
}

func exchanged(t *testing.T, s steep.Steep, one, other int) {
	t.Helper()
	z := clone(s)
	z.Vats[one], z.Vats[other] = z.Vats[other], z.Vats[one]
	number := func(v int) int {
		switch v {
		case one:
			return other
		case other:
			return one
		}
		return v
	}
	for i := range z.Smells {
		z.Smells[i].Vat = number(s.Smells[i].Vat)
	}
	if l, m := leaveOf(t, s), leaveOf(t, z); len(l) != len(m) {
		t.Errorf("%v: with %d and %d exchanged %v are left out, not %v", s, one, other, m, l)
	}
	for v := range s.Vats {
		l, e := steep.Out(s, v)
		m, f := steep.Out(z, number(v))
		g, h := steep.Good(s, v)
		i, j := steep.Good(z, number(v))
		if !slices.Equal(l, m) || e != f || g != i || h != j {
			t.Errorf("%v: with %d and %d exchanged: %v, %v; %v, %v, not %v, %v; %v, %v", s, one, other, m, f, i, j, l, e, g, h)
		}
	}
}

// P2.16
func TestBeforeTheFirst(t *testing.T) {
	for _, s := range append(steeps(), untrue()) {
		n, e := steep.First(s)
		if e == api.ErrNone {
			if !hasTruth(s) {
				t.Errorf("%v has no truth, and no first wrong smell", s)
			}
			continue
		}
		answered(t, "First", s, e)
		z := clone(s)
		z.Smells = z.Smells[:n]
		if !hasTruth(z) || len(proved(z)) == 0 {
			t.Errorf("%v: there is no truth before the smell %d", s, n)
		}
		z = with(z, s.Smells[n])
		if hasTruth(z) || len(proved(z)) > 0 {
			t.Errorf("%v: there is a truth with the smell %d", s, n)
		}
	}
}

// P2.17
func TestLeftOut(t *testing.T) {
	for _, s := range append(steeps(), untrue()) {
		l := leaveOf(t, s)
		sets := allSets(len(s.Smells))
		at := slices.IndexFunc(sets, func(set []int) bool { return slices.Equal(set, l) })
		if at < 0 {
			t.Errorf("%v: %v is no set of smells", s, l)
			continue
		}
		if z := without(s, l); !hasTruth(z) || len(proved(z)) == 0 {
			t.Errorf("%v: without %v there is no truth", s, l)
		}
		for _, set := range sets[:at] {
			if z := without(s, set); hasTruth(z) || len(proved(z)) > 0 {
				t.Errorf("%v: %v can be left out, and is before %v", s, set, l)
			}
		}
	}
}
