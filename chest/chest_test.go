package chest_test

import (
	"math"
	"slices"
	"testing"

	"anil/api"
	"anil/cake"
	"anil/chest"
)

// The promises P7.1 to P7.5: the chapter's examples, the edges, and all packs of the list against what the chapter defines.

func equal(a, b [][]int) bool {
	return slices.EqualFunc(a, b, func(x, y []int) bool { return slices.Equal(x, y) })
}

// P7.1
func TestCheckPack(t *testing.T) {
	cut := func(change func(c *cake.Cut)) chest.Pack {
		return changed(example(), func(p *chest.Pack) { change(&p.Cut) })
	}
	uncounted := cut(func(c *cake.Cut) { c.Boilings[1].Cut = span(3, 6) })
	for _, x := range []struct {
		name string
		want api.Errno
		p    chest.Pack
	}{
		{"the example", api.OK, example()},
		{"the largest pack", api.OK, largest(3, 9, 9)},
		{"no cakes, and no boilings", api.OK, bare(0)},
		{"no cakes", api.OK, cut(func(c *cake.Cut) { c.Cakes, c.Boilings = nil, c.Boilings[2:] })},
		{"fewer cakes than a chest has", api.OK, known(3, 0, 0, 4, 4)},
		{"the zero value", api.ErrArg, chest.Pack{}}, // its Size is 0
		{"no truth", api.ErrFalse, untrue()},
		{"no lot that is counted", api.ErrFalse, uncounted},
		{"no lot", api.ErrFalse, bare(1)},
		{"no cakes, though two were cut", api.ErrFalse, cut(func(c *cake.Cut) { c.Cakes = nil })},
		{"too many boilings", api.ErrLimit, cut(func(c *cake.Cut) { c.Boilings = make([]cake.Boiling, 4) })},
		{"too many cakes", api.ErrLimit, cut(func(c *cake.Cut) { c.Cakes = make([]cake.Cake, 7) })},
		{"too many lots", api.ErrLimit, changed(known(2, 0, 0, 1, 2, 3, 1, 2, 3), func(p *chest.Pack) { p.Cut.Boilings[0].Shade = span(0, 8) })},
		{"an Eye that is not valid", api.ErrArg, cut(func(c *cake.Cut) { c.Eye = 4 })},
		{"Grains that do not rise", api.ErrArg, cut(func(c *cake.Cut) { c.Cakes[1].Grains = list(1, 0) })},
		{"a Shade that is no range", api.ErrArg, cut(func(c *cake.Cut) { c.Boilings[0].Shade = span(4, 3) })},
	} {
		if e := chest.CheckPack(x.p); e != x.want {
			t.Errorf("%s: %v", x.name, e)
		}
		// The error of the Cut is before that of the numbers.
		want := x.want
		if want == api.OK {
			want = api.ErrArg
		}
		x.p.Size, x.p.Spread, x.p.Width = 4, -1, 10
		if e := chest.CheckPack(x.p); e != want {
			t.Errorf("%s, and numbers that are not valid: %v", x.name, e)
		}
	}
}

// P7.1: TestCheckNumbers changes one number of a pack at a time, to both sides of its limits.
func TestCheckNumbers(t *testing.T) {
	for _, x := range []struct {
		name      string
		low, high int // what is valid
		set       func(p *chest.Pack, n int)
	}{
		{"Size", 2, 3, func(p *chest.Pack, n int) { p.Size = n }},
		{"Spread", 0, 9, func(p *chest.Pack, n int) { p.Spread = n }},
		{"Width", 0, 9, func(p *chest.Pack, n int) { p.Width = n }},
	} {
		for _, n := range list(x.low, x.high, x.low-1, x.high+1, 0, 1, 2, 3, 4, 9, math.MinInt, math.MaxInt, -7, 77777) {
			for _, p := range []chest.Pack{example(), bare(0)} {
				x.set(&p, n)
				want := api.ErrArg
				if x.low <= n && n <= x.high {
					want = api.OK
				}
				if e := chest.CheckPack(p); e != want {
					t.Errorf("%s %d: %v", x.name, n, e)
				}
			}
		}
	}
}

// P7.1: CheckPack has the error that package cake has for the Cut.
func TestCheckCuts(t *testing.T) {
	none, some := 0, 0
	for _, p := range packs() {
		_, want := cake.Whose(p.Cut)
		if (want == api.OK) != (len(truthsOf(p)) > 0) {
			t.Fatalf("Whose of %v: %v", p, want)
		}
		if e := chest.CheckPack(p); e != want {
			t.Errorf("CheckPack of %v: %v, not %v", p, e, want)
		}
		if want == api.OK {
			some++
		} else {
			none++
		}
	}
	if none < 40 || some < 150 {
		t.Errorf("%d packs have no truth, and %d have: they say too little", none, some)
	}
}

// P7.1
func TestExamplesOfTogether(t *testing.T) {
	for _, x := range []struct {
		name       string
		p          chest.Pack
		one, other int
		want       int
		e          api.Errno
	}{
		{"0 and 2", example(), 0, 2, always, api.OK},
		{"0 and 1", example(), 0, 1, perhaps, api.OK},
		{"1 and 2", example(), 1, 2, perhaps, api.OK},
		{"1 and 2 with Spread 0", four(2, 0, 2), 1, 2, never, api.OK},
		{"0 and 2 with Spread 0", four(2, 0, 2), 0, 2, perhaps, api.OK},
		{"0 and 3 with Spread 2", four(2, 2, 2), 0, 3, perhaps, api.OK},
		{"0 and 3 with Spread 3", four(2, 3, 2), 0, 3, always, api.OK},
		{"0 and 3 with Spread 3, whatever the Width", four(3, 3, 0), 0, 3, always, api.OK},
		{"0 and 3 with Spread 0", four(2, 0, 9), 0, 3, never, api.OK},
		{"shades as far apart as can be", known(2, 8, 0, 0, 9), 0, 1, never, api.OK},
		{"as far apart, with Spread 9", known(2, 9, 0, 0, 9), 0, 1, always, api.OK},
		{"the same shade", known(2, 0, 0, 4, 4), 1, 0, always, api.OK},
		{"no such cake", example(), 0, 4, 0, api.ErrRange},
		{"a cake below 0", example(), -1, 0, 0, api.ErrRange},
		{"the same one", example(), 3, 3, 0, api.ErrTwice},
		{"the same one, which there is not", example(), 4, 4, 0, api.ErrRange},
		{"no cakes", bare(0), 0, 0, 0, api.ErrRange},
		{"no cakes, and two numbers", bare(0), 0, 1, 0, api.ErrRange},
		{"no truth", untrue(), 0, 2, 0, api.ErrFalse},
		{"no truth, and the same one", untrue(), 2, 2, 0, api.ErrFalse},
		{"no truth, and no such cake", untrue(), 9, 2, 0, api.ErrFalse},
		{"a Size that is not valid, and no such cake", four(4, 0, 0), 9, 2, 0, api.ErrArg},
	} {
		for range 2 {
			if n, e := chest.Together(x.p, x.one, x.other); n != x.want || e != x.e {
				t.Errorf("%s: %d, %v", x.name, n, e)
			}
			x.one, x.other = x.other, x.one
		}
	}
}

// truePacks returns the packs of the list that have a truth, and the chapter's.
func truePacks() (out []chest.Pack) {
	for _, p := range append(packs(), example(), four(2, 2, 2), four(2, 3, 3), four(2, 1, 1), four(3, 3, 3), four(3, 2, 9)) {
		if len(truthsOf(p)) > 0 {
			out = append(out, p)
		}
	}
	return out
}

// P7.1
func TestTogether(t *testing.T) {
	var seen [4]int
	for _, p := range truePacks() {
		all := truthsOf(p)
		for i := range p.Cut.Cakes {
			for j := range p.Cut.Cakes {
				n, e := chest.Together(p, i, j)
				if i == j {
					if n != 0 || e != api.ErrTwice {
						t.Errorf("Together of %v, %d, %d: %d, %v", p, i, j, n, e)
					}
					continue
				}
				if want := wantTogether(p, all, i, j); n != want || e != api.OK {
					t.Errorf("Together of %v, %d, %d: %d, %v, not %d", p, i, j, n, e, want)
				}
				seen[wantTogether(p, all, i, j)]++
			}
		}
	}
	if slices.Min(seen[1:]) < 100 {
		t.Errorf("two cakes go together always, never and perhaps so often: %v: the packs say too little", seen[1:])
	}
}

// P7.2
func TestExamplesOfLabelAndOdd(t *testing.T) {
	for _, x := range []struct {
		name  string
		p     chest.Pack
		cakes []int
		label chest.Range
		e     api.Errno
		said  chest.Range
		odd   int
		f     api.Errno
	}{
		{"3..4 said", example(), list(0, 2), to(3, 5), api.OK, to(3, 4), 2, api.OK},
		{"4..5 said", example(), list(0, 2), to(3, 5), api.OK, to(4, 5), 0, api.OK},
		{"3..5 said", example(), list(0, 2), to(3, 5), api.OK, to(3, 5), 0, api.ErrNone},
		{"more said", example(), list(0, 2), to(3, 5), api.OK, to(-9, 99), 0, api.ErrNone},
		{"as much said as can be", example(), list(0, 2), to(3, 5), api.OK, to(math.MinInt, math.MaxInt), 0, api.ErrNone},
		{"what no cake shows", example(), list(1, 3), to(4, 6), api.OK, to(math.MaxInt, math.MaxInt), 1, api.OK},
		{"what no cake can show", example(), list(1, 3), to(4, 6), api.OK, to(-3, -1), 1, api.OK},
		{"one shade", example(), list(2, 3), to(3, 6), api.OK, to(5, 5), 2, api.OK},
		{"only the last one", example(), list(2, 3), to(3, 6), api.OK, to(3, 5), 3, api.OK},
		{"a chest that is not sure", example(), list(0, 1), to(3, 6), api.OK, to(3, 6), 0, api.ErrNone},
		{"three cakes", four(3, 0, 0), list(0, 1, 2), to(3, 6), api.OK, to(3, 5), 1, api.OK},
		{"the last three", four(3, 0, 0), list(1, 2, 3), to(3, 6), api.OK, to(4, 6), 2, api.OK},
		{"the last of three", four(3, 0, 0), list(0, 2, 3), to(3, 6), api.OK, to(3, 5), 3, api.OK},
		{"known shades", known(3, 0, 0, 9, 0, 4), list(0, 1, 2), to(0, 9), api.OK, to(1, 9), 1, api.OK},
		{"nothing said", example(), list(0, 2), to(3, 5), api.OK, to(4, 3), 0, api.ErrRange},
		{"as little said as can be", example(), list(0, 2), to(3, 5), api.OK, to(math.MaxInt, math.MinInt), 0, api.ErrRange},
		{"no truth, and nothing said", untrue(), list(0, 2), to(0, 0), api.ErrFalse, to(4, 3), 0, api.ErrFalse},
		{"no truth, and no chest", untrue(), list(0, 9), to(0, 0), api.ErrFalse, to(3, 4), 0, api.ErrFalse},
		{"a Width that is not valid, and no chest", four(2, 1, 10), list(0), to(0, 0), api.ErrArg, to(3, 4), 0, api.ErrArg},
	} {
		if r, e := chest.Label(x.p, x.cakes); r != x.label || e != x.e {
			t.Errorf("%s: Label is %v, %v", x.name, r, e)
		}
		if n, e := chest.Odd(x.p, x.cakes, x.said); n != x.odd || e != x.f {
			t.Errorf("%s: Odd is %d, %v", x.name, n, e)
		}
	}
}

// P7.2, P7.5
func TestNoChests(t *testing.T) {
	wide := func(size int) chest.Pack { return four(size, 9, 9) }
	for _, x := range []struct {
		name    string
		p       chest.Pack
		cakes   []int
		isChest bool
	}{
		{"two", wide(2), list(0, 3), true},
		{"three", wide(3), list(0, 1, 3), true},
		{"the last three", wide(3), list(1, 2, 3), true},
		{"none", wide(2), nil, false},
		{"one", wide(2), list(0), false},
		{"three of two", wide(2), list(0, 1, 2), false},
		{"two of three", wide(3), list(0, 1), false},
		{"four of three", wide(3), list(0, 1, 2, 3), false},
		{"many", wide(3), make([]int, 999), false},
		{"it falls", wide(2), list(1, 0), false},
		{"it falls at the end", wide(3), list(0, 2, 1), false},
		{"it falls at first", wide(3), list(1, 0, 2), false},
		{"one twice", wide(2), list(1, 1), false},
		{"the last one twice", wide(3), list(0, 1, 1), false},
		{"the first one twice", wide(3), list(0, 0, 1), false},
		{"a cake below 0", wide(2), list(-1, 0), false},
		{"a cake too many", wide(2), list(3, 4), false},
		{"a cake that no cut has", wide(3), list(0, 1, 6), false},
		{"huge numbers", wide(2), list(math.MinInt, math.MaxInt), false},
		{"the last number is huge", wide(2), list(3, math.MaxInt), false},
		{"no cakes", bare(0), list(0, 1), false},
	} {
		_, e := chest.Label(x.p, x.cakes)
		_, f := chest.Odd(x.p, x.cakes, to(0, 0))
		_, g := chest.Odd(x.p, x.cakes, to(1, 0))
		want := api.OK
		if !x.isChest {
			want = api.ErrRange
		}
		if e != want || f != want || g != api.ErrRange {
			t.Errorf("%s: %v, %v, %v", x.name, e, f, g)
		}
		if chest.ProvePack(x.p, lists(x.cakes), 1) != x.isChest {
			t.Errorf("%s: a packing", x.name)
		}
	}
}

// P7.2
func TestLabelAndOdd(t *testing.T) {
	odd, none := 0, 0
	for _, p := range truePacks() {
		all := truthsOf(p)
		for _, c := range allChests(p) {
			want := wantLabel(all, c)
			if r, e := chest.Label(p, c); r != want || e != api.OK {
				t.Errorf("Label of %v, %v: %v, %v, not %v", p, c, r, e, want)
			}
			for _, said := range []chest.Range{want, to(want.Lo+1, want.Hi), to(want.Lo, want.Hi-1), to(want.Lo-1, want.Hi+1), to(want.Lo+1, want.Lo+1), to(want.Hi, want.Hi+2)} {
				wanted := api.OK
				first, is := wantOdd(all, c, said)
				switch {
				case said.Lo > said.Hi:
					first, wanted = 0, api.ErrRange
				case is:
					odd++
				default:
					wanted = api.ErrNone
					none++
				}
				if n, e := chest.Odd(p, c, said); n != first || e != wanted {
					t.Errorf("Odd of %v, %v, %v: %d, %v, not %d, %v", p, c, said, n, e, first, wanted)
				}
			}
		}
	}
	if odd < 500 || none < 500 {
		t.Errorf("%d times a cake is odd, and %d times none: the packs say too little", odd, none)
	}
}

// P7.3
func TestExamplesOfMostAndLeft(t *testing.T) {
	for _, x := range []struct {
		name string
		p    chest.Pack
		most [][]int
		left []int
		e    api.Errno
	}{
		{"the example", example(), lists(list(0, 2)), list(1, 3), api.OK},
		{"with Spread 2", four(2, 2, 2), lists(list(0, 2), list(1, 3)), nil, api.OK},
		{"with Spread 3 and Width 3", four(2, 3, 3), lists(list(0, 1), list(2, 3)), nil, api.OK},
		{"with Spread 3 and Width 2", four(2, 3, 2), lists(list(0, 2), list(1, 3)), nil, api.OK},
		{"with Width 1", four(2, 1, 1), nil, list(0, 1, 2, 3), api.OK},
		{"with Spread 9 and Width 1", four(2, 9, 1), nil, list(0, 1, 2, 3), api.OK},
		{"with Spread 0 and Width 9", four(2, 0, 9), nil, list(0, 1, 2, 3), api.OK},
		{"with Size 3, Spread 3 and Width 3", four(3, 3, 3), lists(list(0, 1, 2)), list(3), api.OK},
		{"with Size 3 and Width 2", four(3, 3, 2), nil, list(0, 1, 2, 3), api.OK},
		{"with Size 3 and Spread 2", four(3, 2, 3), nil, list(0, 1, 2, 3), api.OK},
		{"three of one shade, and three of another", known(3, 0, 0, 4, 5, 4, 5, 5, 4), lists(list(0, 2, 5), list(1, 3, 4)), nil, api.OK},
		{"pairs", known(2, 0, 0, 4, 5, 6, 6, 5, 4), lists(list(0, 5), list(1, 4), list(2, 3)), nil, api.OK},
		{"the first chest leaves too few", known(2, 1, 1, 4, 4, 5, 3), lists(list(0, 2), list(1, 3)), nil, api.OK},
		{"the first cake has no chest", known(2, 0, 0, 9, 4, 5, 4, 5), lists(list(1, 3), list(2, 4)), list(0), api.OK},
		{"the last cake has no chest", known(2, 0, 0, 4, 5, 4, 5, 9), lists(list(0, 2), list(1, 3)), list(4), api.OK},
		{"all are alike", known(2, 0, 0, 4, 4, 4, 4, 4), lists(list(0, 1), list(2, 3)), list(4), api.OK},
		{"all are alike, and three go into a chest", known(3, 0, 0, 4, 4, 4, 4, 4), lists(list(0, 1, 2)), list(3, 4), api.OK},
		{"neighbours, but not the ends", known(3, 1, 9, 4, 5, 6), nil, list(0, 1, 2), api.OK},
		{"with the ends", known(3, 2, 2, 4, 5, 6), lists(list(0, 1, 2)), nil, api.OK},
		{"with the ends, but too wide", known(3, 2, 1, 4, 5, 6), nil, list(0, 1, 2), api.OK},
		{"fewer cakes than a chest has", known(3, 9, 9, 4, 4), nil, list(0, 1), api.OK},
		{"no cakes", bare(0), nil, nil, api.OK},
		{"no truth", untrue(), nil, nil, api.ErrFalse},
		{"a Spread that is not valid", four(2, 10, 2), nil, nil, api.ErrArg},
	} {
		if l, e := chest.Most(x.p); !equal(l, x.most) || e != x.e {
			t.Errorf("%s: Most is %v, %v", x.name, l, e)
		}
		if l, e := chest.Left(x.p); !slices.Equal(l, x.left) || e != x.e {
			t.Errorf("%s: Left is %v, %v", x.name, l, e)
		}
	}
}

// P7.3
func TestMostAndLeft(t *testing.T) {
	var seen [4]int
	later := 0
	for _, p := range truePacks() {
		all := truthsOf(p)
		want := wantMost(p, all)
		if l, e := chest.Most(p); !equal(l, want) || e != api.OK {
			t.Errorf("Most of %v: %v, %v, not %v", p, l, e, want)
		}
		if l, e := chest.Left(p); !slices.Equal(l, leftBy(p, want)) || e != api.OK {
			t.Errorf("Left of %v: %v, %v, not %v", p, l, e, leftBy(p, want))
		}
		seen[len(want)]++
		if packings := surePackings(p, all); len(want) > 1 && !equal(packings[1], want[:1]) {
			later++ // the best packing does not have the first chest that there is
		}
	}
	if slices.Min(seen[:3]) < 20 || seen[3] < 10 || later < 3 {
		t.Errorf("so many packs have 0 to 3 chests: %v, and %d do not begin with the first one: they say too little", seen, later)
	}
}

// P7.4
func TestExamplesOfNeed(t *testing.T) {
	for _, x := range []struct {
		name string
		p    chest.Pack
		many int
		want int
		e    api.Errno
	}{
		{"1", example(), 1, 1, api.OK},
		{"2", example(), 2, 2, api.OK},
		{"3", example(), 3, 0, api.ErrShort},
		{"0", example(), 0, 0, api.OK},
		{"6", example(), 6, 0, api.ErrShort},
		{"7", example(), 7, 0, api.ErrRange},
		{"-1", example(), -1, 0, api.ErrRange},
		{"very many", example(), math.MaxInt, 0, api.ErrRange},
		{"very few", example(), math.MinInt, 0, api.ErrRange},
		{"1, whatever the Spread is", four(2, 9, 2), 1, 1, api.OK},
		{"2, whatever the Spread is", four(2, 0, 2), 2, 2, api.OK},
		{"1 with Width 1", four(2, 1, 1), 1, 0, api.ErrShort},
		{"0 with Width 1", four(2, 1, 1), 0, 0, api.OK},
		{"1 of three", four(3, 0, 9), 1, 3, api.OK},
		{"2 of three", four(3, 0, 9), 2, 0, api.ErrShort},
		{"shades as far apart as can be", known(2, 0, 9, 0, 9), 1, 9, api.OK},
		{"as far apart, but Width 8", known(2, 9, 8, 0, 9), 1, 0, api.ErrShort},
		{"all are alike", known(2, 9, 0, 4, 4, 4, 4, 4, 4), 3, 0, api.OK},
		{"all are alike, and one too many", known(2, 9, 0, 4, 4, 4, 4, 4, 4), 4, 0, api.ErrShort},
		{"two of three that are alike", known(3, 9, 0, 4, 4, 4, 4, 4, 4), 2, 0, api.OK},
		{"no cakes, 0", bare(0), 0, 0, api.OK},
		{"no cakes, 1", bare(0), 1, 0, api.ErrShort},
		{"no cakes, 7", bare(0), 7, 0, api.ErrRange},
		{"no truth, 0", untrue(), 0, 0, api.ErrFalse},
		{"no truth, 7", untrue(), 7, 0, api.ErrFalse},
		{"a Width that is not valid, 7", four(2, 1, -1), 7, 0, api.ErrArg},
	} {
		if n, e := chest.Need(x.p, x.many); n != x.want || e != x.e {
			t.Errorf("%s: %d, %v", x.name, n, e)
		}
	}
}

// P7.4
func TestNeed(t *testing.T) {
	spreads := map[int]int{}
	short := 0
	for _, p := range truePacks() {
		all := truthsOf(p)
		for many := -1; many <= 7; many++ {
			want, ok := wantNeed(p, all, many)
			wanted := api.OK
			switch {
			case many < 0 || many > 6:
				want, wanted = 0, api.ErrRange
			case !ok:
				wanted = api.ErrShort
				short++
			case many > 0:
				spreads[want]++
			}
			if n, e := chest.Need(p, many); n != want || e != wanted {
				t.Errorf("Need of %v, %d: %d, %v, not %d, %v", p, many, n, e, want, wanted)
			}
		}
	}
	if spreads[0] < 20 || spreads[1] < 20 || spreads[2] < 20 || len(spreads) < 4 || short < 100 {
		t.Errorf("so many Spreads are needed: %v, and %d times there is none: the packs say too little", spreads, short)
	}
}

// P7.5
func TestExamplesOfProvePack(t *testing.T) {
	for _, x := range []struct {
		name   string
		p      chest.Pack
		chests [][]int
		many   int
		want   bool
	}{
		{"the example", example(), lists(list(0, 2)), 1, true},
		{"more than so many", example(), lists(list(0, 2)), 0, true},
		{"more than below 0", example(), lists(list(0, 2)), math.MinInt, true},
		{"fewer than so many", example(), lists(list(0, 2)), 2, false},
		{"fewer than very many", example(), lists(list(0, 2)), math.MaxInt, false},
		{"no chests", example(), nil, 0, true},
		{"no chests, and one wanted", example(), nil, 1, false},
		{"a chest that is not sure", example(), lists(list(0, 1)), 1, false},
		{"a second one that is not sure", example(), lists(list(0, 2), list(1, 3)), 1, false},
		{"two", four(2, 2, 2), lists(list(0, 2), list(1, 3)), 2, true},
		{"the second one alone", four(2, 2, 2), lists(list(1, 3)), 1, true},
		{"not in their order", four(2, 2, 2), lists(list(1, 3), list(0, 2)), 2, false},
		{"others that are not the best", four(2, 9, 9), lists(list(0, 3), list(1, 2)), 2, true},
		{"a chest twice", four(2, 9, 9), lists(list(0, 1), list(0, 1)), 1, false},
		{"a cake twice", four(2, 9, 9), lists(list(0, 1), list(1, 2)), 1, false},
		{"the first cake twice", four(2, 9, 9), lists(list(0, 1), list(0, 2)), 1, false},
		{"the last cake twice", four(2, 9, 9), lists(list(0, 3), list(1, 3)), 1, false},
		{"a chest without cakes", four(2, 9, 9), lists(list(0, 1), nil), 1, false},
		{"a chest without cakes at first", four(2, 9, 9), lists(nil, list(0, 1)), 1, false},
		{"a chest that is too large", four(2, 9, 9), lists(list(0, 1, 2)), 1, false},
		{"a chest that falls", four(2, 9, 9), lists(list(1, 0)), 1, false},
		{"no such cake", four(2, 9, 9), lists(list(3, 4)), 1, false},
		{"very many chests", four(2, 9, 9), make([][]int, 999), 1, false},
		{"three of two", known(2, 0, 0, 4, 4, 4, 4, 4, 4), lists(list(0, 5), list(1, 3), list(2, 4)), 3, true},
		{"two of three", known(3, 0, 0, 4, 4, 4, 4, 4, 4), lists(list(0, 2, 4), list(1, 3, 5)), 2, true},
		{"too wide", known(2, 9, 0, 4, 5), lists(list(0, 1)), 1, false},
		{"too far apart", known(2, 0, 9, 4, 5), lists(list(0, 1)), 1, false},
		{"just wide enough", known(2, 1, 1, 4, 5), lists(list(0, 1)), 1, true},
		{"no cakes", bare(0), nil, 0, true},
		{"no cakes, and a chest", bare(0), lists(list(0, 1)), 0, false},
		{"no truth", untrue(), lists(list(0, 2)), 1, false},
		{"no truth, and no chests", untrue(), nil, 0, false},
		{"a Size that is not valid", four(1, 9, 9), lists(list(0)), 1, false},
		{"a Spread that is not valid", four(2, 10, 9), lists(list(0, 1)), 1, false},
		{"a Width that is not valid", four(2, 9, 10), nil, 0, false},
		{"a cut that is not valid", changed(example(), func(p *chest.Pack) { p.Cut.Eye = -1 }), nil, 0, false},
		{"the zero value", chest.Pack{}, nil, 0, false},
	} {
		if chest.ProvePack(x.p, x.chests, x.many) != x.want {
			t.Errorf("%s: not %v", x.name, x.want)
		}
	}
}

// P7.5
func TestProvePack(t *testing.T) {
	yes, no := 0, 0
	for _, p := range truePacks() {
		all := truthsOf(p)
		sure := surePackings(p, all)
		for i, l := range allPackings(allChests(p)) {
			if i%5 > 0 && i > 20 { // a fifth of the many
				continue
			}
			want := slices.ContainsFunc(sure, func(k [][]int) bool { return equal(k, l) })
			if chest.ProvePack(p, l, len(l)) != want || chest.ProvePack(p, l, -1) != want || chest.ProvePack(p, l, len(l)+1) {
				t.Errorf("ProvePack of %v, %v: not %v", p, l, want)
			}
			if want {
				yes++
			} else {
				no++
			}
		}
	}
	if yes < 300 || no < 300 {
		t.Errorf("%d packings are sure, and %d are not: the packs say too little", yes, no)
	}
}

// TestLargest asks all calls about the largest packs that are allowed.
func TestLargest(t *testing.T) {
	for _, p := range []chest.Pack{largest(2, 4, 5), largest(2, 5, 4), largest(3, 5, 9), largest(3, 4, 4)} {
		all := truthsOf(p)
		if len(all) < 500 {
			t.Fatalf("the pack has only %d truths", len(all))
		}
		want := wantMost(p, all)
		l, e := chest.Most(p)
		k, f := chest.Left(p)
		if !equal(l, want) || e != api.OK || !slices.Equal(k, leftBy(p, want)) || f != api.OK {
			t.Errorf("Most, Left: %v, %v; %v, %v, not %v", l, e, k, f, want)
		}
		if !chest.ProvePack(p, want, len(want)) || chest.ProvePack(p, want, len(want)+1) {
			t.Errorf("%v is no packing", want)
		}
		for many := range 4 {
			want, ok := wantNeed(p, all, many)
			if n, e := chest.Need(p, many); n != want || ok != (e == api.OK) {
				t.Errorf("Need of %d: %d, %v, not %d", many, n, e, want)
			}
		}
		for i := range 5 {
			if n, e := chest.Together(p, i, 5); n != wantTogether(p, all, i, 5) || e != api.OK {
				t.Errorf("Together of %d and 5: %d, %v", i, n, e)
			}
		}
		for _, c := range allChests(p) {
			label := wantLabel(all, c)
			r, e := chest.Label(p, c)
			n, f := chest.Odd(p, c, to(label.Lo, label.Hi-1))
			if first, ok := wantOdd(all, c, to(label.Lo, label.Hi-1)); r != label || e != api.OK || n != first || !ok || f != api.OK {
				t.Errorf("Label, Odd of %v: %v, %v; %d, %v, not %v, %d", c, r, e, n, f, label, first)
			}
		}
	}
}
