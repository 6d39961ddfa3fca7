package chest_test

import (
	"slices"
	"testing"

	"anil/api"
	"anil/cake"
	"anil/chest"
)

// The promises P7.6 to P7.12, asked of packages chest and cake alone.

// answered fails the test if a call that must have a result has an error instead.
func answered(t *testing.T, what string, p chest.Pack, e api.Errno) {
	t.Helper()
	if e != api.OK {
		t.Fatalf("%s of %v: %v", what, p, e)
	}
}

func mostOf(t *testing.T, p chest.Pack) [][]int {
	t.Helper()
	l, e := chest.Most(p)
	answered(t, "Most", p, e)
	return l
}

func leftOf(t *testing.T, p chest.Pack) []int {
	t.Helper()
	l, e := chest.Left(p)
	answered(t, "Left", p, e)
	return l
}

func labelOf(t *testing.T, p chest.Pack, cakes []int) chest.Range {
	t.Helper()
	r, e := chest.Label(p, cakes)
	answered(t, "Label", p, e)
	return r
}

func togetherOf(t *testing.T, p chest.Pack, one, other int) int {
	t.Helper()
	n, e := chest.Together(p, one, other)
	answered(t, "Together", p, e)
	return n
}

func sameOf(t *testing.T, p chest.Pack, one, other int) int {
	t.Helper()
	n, e := cake.Same(p.Cut, one, other)
	answered(t, "Same", p, e)
	return n
}

// hasTruth reports whether the cut of the pack has a truth, as package cake says it.
func hasTruth(p chest.Pack) bool {
	_, e := cake.Whose(p.Cut)
	return e == api.OK
}

// pairs returns all pairs of cakes, the smaller number first.
func pairs(p chest.Pack) (out [][2]int) {
	for j := range p.Cut.Cakes {
		for i := range j {
			out = append(out, [2]int{i, j})
		}
	}
	return out
}

// P7.6
func TestTogetherInEachTruth(t *testing.T) {
	for _, p := range truePacks() {
		all := truthsOf(p)
		for _, x := range pairs(p) {
			within, beyond := 0, 0
			for _, shades := range all {
				if distance(shades[x[0]], shades[x[1]]) <= p.Spread {
					within++
				} else {
					beyond++
				}
			}
			n := togetherOf(t, p, x[0], x[1])
			if (n == always) != (beyond == 0) || (n == never) != (within == 0) || (n == perhaps) != (within > 0 && beyond > 0) {
				t.Errorf("%v: %v go together: %d, but in %d truths they do, and in %d not", p, x, n, within, beyond)
			}
		}
		for _, c := range mostOf(t, p) {
			label := labelOf(t, p, c)
			if label.Hi-label.Lo > p.Width {
				t.Errorf("%v: the label of %v is %v", p, c, label)
			}
			for _, shades := range all {
				for _, i := range c {
					if shades[i] < label.Lo || shades[i] > label.Hi {
						t.Errorf("%v: %d shows %d, but the label of %v is %v", p, i, shades[i], c, label)
					}
					for _, j := range c {
						if distance(shades[i], shades[j]) > p.Spread {
							t.Errorf("%v: %d and %d of %v show %d and %d", p, i, j, c, shades[i], shades[j])
						}
					}
				}
			}
		}
	}
}

// P7.6
func TestNarrowerThanTheLabel(t *testing.T) {
	narrower := 0
	for _, p := range truePacks() {
		for _, c := range allChests(p) {
			label := labelOf(t, p, c)
			if n, e := chest.Odd(p, c, label); e != api.ErrNone {
				t.Errorf("%v: %d of %v may show something else than the label %v: %v", p, n, c, label, e)
			}
			for low := label.Lo; low <= label.Hi; low++ {
				for high := low; high <= label.Hi; high++ {
					if to(low, high) == label {
						continue
					}
					narrower++
					n, e := chest.Odd(p, c, to(low, high))
					if e != api.OK || !slices.Contains(c, n) {
						t.Errorf("%v: %d of %v may show something else than %d to %d: %v", p, n, c, low, high, e)
					}
				}
			}
		}
	}
	if narrower < 1000 {
		t.Errorf("only %d ranges are narrower than a label: the packs say too little", narrower)
	}
}

// P7.7
func TestNoBetterPacking(t *testing.T) {
	others := 0
	for _, p := range truePacks() {
		best := mostOf(t, p)
		if !chest.ProvePack(p, best, len(best)) {
			t.Errorf("%v: %v is no packing", p, best)
		}
		for _, l := range allPackings(allChests(p)) {
			if len(l) < len(best) || len(l) == len(best) && !isBefore(l, best) {
				continue // It would not be better.
			}
			others++
			if chest.ProvePack(p, l, len(l)) {
				t.Errorf("%v: %v is better than %v", p, l, best)
			}
		}
	}
	if others < 700 {
		t.Errorf("only %d packings are tried: the packs say too little", others)
	}
}

// P7.7
func TestNothingElseIsLeft(t *testing.T) {
	many := 0
	for _, p := range truePacks() {
		best, left := mostOf(t, p), leftOf(t, p)
		if !slices.Equal(left, leftBy(p, best)) {
			t.Errorf("%v: %v are left, but the chests are %v", p, left, best)
		}
		for _, c := range allChests(p) {
			isLeft := !slices.ContainsFunc(c, func(i int) bool { return !slices.Contains(left, i) })
			if !isLeft {
				continue
			}
			many++
			if chest.ProvePack(p, lists(c), 1) {
				t.Errorf("%v: %v are left, of which %v are a sure chest", p, left, c)
			}
		}
	}
	if many < 120 {
		t.Errorf("only %d chests are left: the packs say too little", many)
	}
}

// togetherAlways returns all pairs that go together always.
func togetherAlways(t *testing.T, p chest.Pack) (out [][2]int) {
	t.Helper()
	for _, x := range pairs(p) {
		if togetherOf(t, p, x[0], x[1]) == always {
			out = append(out, x)
		}
	}
	return out
}

// P7.8
func TestWider(t *testing.T) {
	chests, together := 0, 0
	for _, p := range truePacks() {
		was, beside := len(mostOf(t, p)), togetherAlways(t, p)
		for _, add := range [][2]int{{1, 0}, {0, 1}, {1, 1}, {3, 0}, {9 - p.Spread, 9 - p.Width}} {
			z := p
			z.Spread, z.Width = p.Spread+add[0], p.Width+add[1]
			if z.Spread > 9 || z.Width > 9 {
				continue
			}
			if n := len(mostOf(t, z)); n < was {
				t.Errorf("%v has %d chests, but with %v more only %d", p, was, add, n)
			} else if n > was {
				chests++
			}
			now := togetherAlways(t, z)
			for _, x := range beside {
				if !slices.Contains(now, x) {
					t.Errorf("%v: %v go together always, but with %v more they do not", p, x, add)
				}
			}
			if len(now) > len(beside) {
				together++
			}
		}
	}
	if chests < 50 || together < 100 {
		t.Errorf("only %d times there are more chests, and %d times more go together: the packs say too little", chests, together)
	}
}

// P7.9
func TestNeeded(t *testing.T) {
	above := 0
	for _, p := range truePacks() {
		least := 0
		for many := range 7 {
			n, e := chest.Need(p, many)
			if e == api.ErrShort {
				n = 10
			} else {
				answered(t, "Need", p, e)
			}
			if many == 0 && n != 0 {
				t.Errorf("%v: without chests the Spread %d is needed", p, n)
			}
			if n < least {
				t.Errorf("%v: for %d chests the Spread %d is needed, but for one less %d", p, many, n, least)
			}
			least = n
			for _, x := range list(n, n-1, 9) {
				if x < 0 || x > 9 {
					continue
				}
				z := p
				z.Spread = x
				if l := mostOf(t, z); (len(l) >= many) != (x >= n) {
					t.Errorf("%v: for %d chests the Spread %d is needed, but with %d they are %v", p, many, n, x, l)
				}
				if m, f := chest.Need(z, many); f != e || f == api.OK && m != n {
					t.Errorf("%v: for %d chests the Spread %d is needed, %v, but if it is %d, %d, %v", p, many, n, e, x, m, f)
				}
			}
			if 0 < n && n < 10 {
				above++
			}
		}
	}
	if above < 50 {
		t.Errorf("only %d times a Spread above 0 is needed: the packs say too little", above)
	}
}

// P7.10
func TestOneBoiling(t *testing.T) {
	same, known, more := 0, 0, 0
	for _, p := range truePacks() {
		all := true
		for _, x := range pairs(p) {
			if sameOf(t, p, x[0], x[1]) != cake.Always {
				all = false
				continue
			}
			same++
			for p.Spread = range 2 {
				if togetherOf(t, p, x[0], x[1]) != always {
					t.Errorf("%v: %v are of the same boiling, but do not go together always", p, x)
				}
			}
		}
		if !all || len(p.Cut.Cakes) == 0 {
			continue
		}
		whose, e := cake.Whose(p.Cut)
		answered(t, "Whose", p, e)
		if len(whose[0]) > 1 || p.Cut.Boilings[whose[0][0]].Shade.Lo < p.Cut.Boilings[whose[0][0]].Shade.Hi {
			continue
		}
		known++
		if len(p.Cut.Boilings) > 1 {
			more++
		}
		for p.Size = 2; p.Size <= 3; p.Size++ {
			for p.Width = range 2 {
				for p.Spread = range 2 {
					if l := mostOf(t, p); len(l) != len(p.Cut.Cakes)/p.Size {
						t.Errorf("%v: all cakes are alike, but the chests are %v", p, l)
					}
				}
			}
		}
	}
	if same < 200 || known < 20 || more < 5 {
		t.Errorf("%d times two cakes are of the same boiling, and %d times (%d of several) all: the packs say too little", same, known, more)
	}
}

// betterRead returns the packs in which the Eye is smaller, or some cake has fewer Grains, if they have a truth.
func betterRead(p chest.Pack) (out []chest.Pack) {
	for eye := range p.Cut.Eye {
		out = append(out, changed(p, func(p *chest.Pack) { p.Cut.Eye = eye }))
	}
	for i, x := range p.Cut.Cakes {
		for k := range x.Grains {
			out = append(out, changed(p, func(p *chest.Pack) {
				p.Cut.Cakes[i].Grains = slices.Delete(p.Cut.Cakes[i].Grains, k, k+1)
			}))
		}
	}
	return slices.DeleteFunc(out, func(p chest.Pack) bool { return !hasTruth(p) })
}

// P7.11
func TestBetterRead(t *testing.T) {
	together, narrower, chests := 0, 0, 0
	for _, p := range truePacks() {
		was, beside := len(mostOf(t, p)), togetherAlways(t, p)
		for _, z := range betterRead(p) {
			now := togetherAlways(t, z)
			for _, x := range beside {
				if !slices.Contains(now, x) {
					t.Errorf("%v: %v go together always, but with %v they do not", p, x, z)
				}
			}
			if len(now) > len(beside) {
				together++
			}
			if n := len(mostOf(t, z)); n < was {
				t.Errorf("%v has %d chests, but %v only %d", p, was, z, n)
			} else if n > was {
				chests++
			}
			for _, c := range allChests(p) {
				old, label := labelOf(t, p, c), labelOf(t, z, c)
				if label.Lo < old.Lo || label.Hi > old.Hi {
					t.Errorf("%v: the label of %v is %v, but of %v %v", p, c, old, z, label)
				}
				if label != old {
					narrower++
				}
			}
		}
	}
	if together < 20 || narrower < 100 || chests < 10 {
		t.Errorf("only %d times more go together, %d labels are narrower, and %d times there are more chests: the packs say too little", together, narrower, chests)
	}
}

// P7.12
func TestOrderOfCakes(t *testing.T) {
	for _, p := range truePacks() {
		for _, x := range pairs(p) {
			if n, m := togetherOf(t, p, x[0], x[1]), togetherOf(t, p, x[1], x[0]); n != m {
				t.Errorf("%v: %v go together %d, but the other way round %d", p, x, n, m)
			}
		}
		tones, e := cake.Tones(p.Cut)
		answered(t, "Tones", p, e)
		for _, c := range allChests(p) {
			want := chest.Range(tones[c[0]])
			for _, i := range c {
				want = to(min(want.Lo, tones[i].Lo), max(want.Hi, tones[i].Hi))
			}
			if r := labelOf(t, p, c); r != want {
				t.Errorf("%v: the label of %v is %v, but its cakes show %v", p, c, r, want)
			}
		}
	}
}

// P7.12
func TestOrderOfLooks(t *testing.T) {
	d := &dice{state: 5}
	for _, p := range truePacks() {
		now := list() // the number that each cake has
		for i := range p.Cut.Cakes {
			now = append(now, i)
		}
		for i := range now {
			j := d.roll(0, i)
			now[i], now[j] = now[j], now[i]
		}
		z := changed(p, func(z *chest.Pack) {
			for i, x := range p.Cut.Cakes {
				z.Cut.Cakes[now[i]] = x
			}
		})
		for _, x := range pairs(p) {
			if n, m := togetherOf(t, p, x[0], x[1]), togetherOf(t, z, now[x[0]], now[x[1]]); n != m {
				t.Errorf("%v: %v go together %d, but with the numbers %v %d", p, x, n, now, m)
			}
		}
		for _, c := range allChests(p) {
			moved := list()
			for _, i := range c {
				moved = append(moved, now[i])
			}
			slices.Sort(moved)
			if r, s := labelOf(t, p, c), labelOf(t, z, moved); r != s {
				t.Errorf("%v: the label of %v is %v, but with the numbers %v %v", p, c, r, now, s)
			}
		}
		if n, m := len(mostOf(t, p)), len(mostOf(t, z)); n != m {
			t.Errorf("%v has %d chests, but with the numbers %v %d", p, n, now, m)
		}
	}
}
