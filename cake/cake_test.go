package cake_test

import (
	"math"
	"slices"
	"testing"

	"anil/api"
	"anil/cake"
)

// The promises P5.1 to P5.6: the chapter's examples, the edges, and all cuts of the list against what the chapter defines.

func equal(a, b [][]int) bool {
	return slices.EqualFunc(a, b, func(x, y []int) bool { return slices.Equal(x, y) })
}

// sized returns a cut with so many boilings and cakes, of which the shades have these sizes.
func sized(cakes int, sizes ...int) cake.Cut {
	c := cake.Cut{Cakes: make([]cake.Cake, cakes)}
	for _, n := range sizes {
		c.Boilings = append(c.Boilings, boiling(to(10-n, 9), 0, to(0, 6)))
	}
	return c
}

// P5.1
func TestCheckCut(t *testing.T) {
	bad := func(c cake.Cut) cake.Cut { return changed(c, func(c *cake.Cut) { c.Eye = -1 }) }
	for _, x := range []struct {
		name string
		want api.Errno
		c    cake.Cut
	}{
		{"the example", api.OK, three()},
		{"the zero value", api.OK, cake.Cut{}},
		{"the largest cut", api.OK, largest()},
		{"without a truth", api.OK, untrue()},
		{"without a lot that is counted", api.OK, uncounted()},
		{"without a lot", api.OK, unboiled()},
		{"6 cakes and no boilings", api.OK, sized(6)},
		{"7 cakes and no boilings", api.ErrLimit, sized(7)},
		{"3 boilings and no cakes", api.OK, sized(0, 1, 2, 3)},
		{"4 boilings", api.ErrLimit, sized(0, 1, 1, 1, 1)},
		{"4 boilings, and not valid", api.ErrLimit, bad(sized(0, 1, 1, 1, 1))},
		{"7 cakes", api.ErrLimit, sized(7, 1)},
		{"7 cakes, and not valid", api.ErrLimit, bad(sized(7, 1))},
		{"6 cakes of one boiling", api.OK, sized(6, 10)},
		{"5760 lots of 2 boilings", api.OK, sized(6, 9, 10)},
		{"6400 lots of 2 boilings", api.ErrLimit, sized(6, 10, 10)},
		{"5832 lots of 6 cakes", api.OK, sized(6, 1, 8, 1)},
		{"6561 lots of 6 cakes", api.ErrLimit, sized(6, 9, 1, 1)},
		{"5832 lots of 5 cakes", api.OK, sized(5, 2, 3, 4)},
		{"6075 lots of 5 cakes", api.ErrLimit, sized(5, 5, 1, 5)},
		{"5832 lots of 3 cakes", api.OK, sized(3, 6, 6, 6)},
		{"6048 lots of 3 cakes", api.ErrLimit, sized(3, 8, 7, 4)},
		{"1000 lots without cakes", api.OK, sized(0, 10, 10, 10)},
		{"3000 lots of one cake", api.OK, sized(1, 10, 10, 10)},
		{"9000 lots of two cakes", api.ErrLimit, sized(2, 10, 10, 10)},
		{"the most lots", api.ErrLimit, sized(6, 10, 10, 10)},
		{"the most lots, and not valid", api.ErrArg, bad(sized(6, 10, 10, 10))},
	} {
		if e := cake.CheckCut(x.c); e != x.want {
			t.Errorf("%s: %v", x.name, e)
		}
	}
}

// P5.1: TestCheckNumbers changes one number of a cut at a time, to both sides of its limits.
func TestCheckNumbers(t *testing.T) {
	for _, x := range []struct {
		name string
		most int // what is valid, from 0
		set  func(c *cake.Cut, n int)
	}{
		{"Eye", 3, func(c *cake.Cut, n int) { c.Eye = n }},
		{"Grain", 5, func(c *cake.Cut, n int) { c.Boilings[0].Grain = n }},
		{"Grain of the last boiling", 5, func(c *cake.Cut, n int) { c.Boilings[2].Grain = n }},
		{"Plants", 9, func(c *cake.Cut, n int) { c.Boilings[0].Plants = list(n) }},
		{"Plants of the last boiling", 9, func(c *cake.Cut, n int) { c.Boilings[2].Plants = list(n) }},
		{"Seen", 9, func(c *cake.Cut, n int) { c.Cakes[0].Seen = n }},
		{"Seen of the last cake", 9, func(c *cake.Cut, n int) { c.Cakes[3].Seen = n }},
		{"Grains", 5, func(c *cake.Cut, n int) { c.Cakes[0].Grains = list(n) }},
		{"Grains of the last cake", 5, func(c *cake.Cut, n int) { c.Cakes[3].Grains = list(n) }},
	} {
		for _, n := range list(0, x.most, -1, x.most+1, x.most/2, math.MinInt, math.MaxInt, -7, 77777) {
			c := three()
			x.set(&c, n)
			checks(t, c, 0 <= n && n <= x.most)
		}
	}
}

// P5.1: TestCheckRanges changes one range of a cut at a time.
func TestCheckRanges(t *testing.T) {
	all := ranges(0, 0, 0, 2, 5, 6, 6, 6, 6, 7, 7, 7, 9, 9, 8, 9, 9, 10, 10, 10, -1, 1, -2, -1, 4, 3, 1, 0, 9, 8, 0, 10,
		math.MinInt, math.MaxInt, math.MaxInt, math.MinInt, 0, math.MaxInt, math.MinInt, 0, math.MaxInt, math.MaxInt, math.MinInt, math.MinInt)
	for _, r := range all {
		isUpTo := func(most int) bool { return 0 <= r.Lo && r.Lo <= r.Hi && r.Hi <= most }
		for b := range 3 {
			checks(t, changed(three(), func(c *cake.Cut) { c.Boilings[b].Shade = r }), isUpTo(9))
			checks(t, changed(three(), func(c *cake.Cut) { c.Boilings[b].Cut = r }), isUpTo(6))
		}
	}
}

// P5.1: TestCheckLists changes one list of a cut at a time.
func TestCheckLists(t *testing.T) {
	for _, x := range []struct {
		l     []int
		rises bool
	}{
		{nil, true}, {list(), true}, {list(0, 5), true}, {list(0, 1, 2, 3, 4, 5), true}, {list(1, 3, 4), true},
		{list(0, 0), false}, {list(1, 0), false}, {list(0, 1, 1), false}, {list(0, 2, 1), false}, {list(5, 4), false}, {list(0, 1, 2, 3, 5, 4), false}, {list(2, 0, 1), false},
		{list(-1, 0), false}, {list(0, 10), false}, {list(math.MinInt, math.MaxInt), false}, {list(math.MaxInt, math.MinInt), false}, {make([]int, 999), false},
	} {
		for i := range 4 {
			checks(t, changed(three(), func(c *cake.Cut) { c.Boilings[i%3].Plants = x.l }), x.rises)
			checks(t, changed(three(), func(c *cake.Cut) { c.Cakes[i].Grains = x.l }), x.rises)
		}
	}
	for i := range 3 {
		checks(t, changed(three(), func(c *cake.Cut) { c.Boilings[i].Plants = list(0, 1, 2, 3, 4, 5, 6, 7, 8, 9) }), true)
		checks(t, changed(three(), func(c *cake.Cut) { c.Boilings[i].Plants = list(0, 1, 2, 3, 4, 5, 6, 7, 8, 9, 10) }), false)
		checks(t, changed(three(), func(c *cake.Cut) { c.Cakes[i].Grains = list(0, 1, 2, 3, 4, 5, 6) }), false)
	}
}

func checks(t *testing.T, c cake.Cut, valid bool) {
	t.Helper()
	want := api.ErrArg
	if valid {
		want = api.OK
	}
	if e := cake.CheckCut(c); e != want {
		t.Errorf("CheckCut of %v: %v", c, e)
	}
}

// P5.1
func TestExamplesOfPlay(t *testing.T) {
	for _, x := range []struct {
		c             cake.Cut
		l             cake.Lot
		counts, wrong []int
	}{
		{three(), lot(list(4, 6, 5), list(0, 0, 2, 1)), list(2, 1, 1), nil},
		{three(), lot(list(3, 5, 5), list(0, 1, 2, 2)), list(1, 1, 2), list(3)},
		{three(), lot(list(3, 5, 5), list(1, 2, 0, 0)), list(2, 1, 1), list(0, 3)},
		{three(), lot(list(4, 5, 5), list(2, 2, 2, 2)), list(0, 0, 4), list(0, 3)},
		{untrue(), lot(list(4, 6, 5), list(0, 0, 2, 1)), list(2, 1, 1), list(0, 1, 2)}, // Play does not ask for a truth
		{uncounted(), lot(list(4, 6, 5), list(0, 0, 2, 1)), list(2, 1, 1), nil},
		{cake.Cut{}, cake.Lot{}, nil, nil},
		{sized(0, 3, 2), lot(list(7, 9), nil), list(0, 0), nil},
	} {
		if n, w, e := cake.Play(x.c, x.l); !slices.Equal(n, x.counts) || !slices.Equal(w, x.wrong) || e != api.OK {
			t.Errorf("Play of %v, %v: %v, %v, %v", x.c, x.l, n, w, e)
		}
	}
}

// P5.1: looks and counts just at their edges, and one step beyond.
func TestEdgesOfLooks(t *testing.T) {
	one := func(eye, shade, seen int, grains ...int) cake.Cut {
		return cake.Cut{Eye: eye, Boilings: []cake.Boiling{boiling(to(shade, shade), 2, to(1, 1))}, Cakes: []cake.Cake{look(seen, grains...)}}
	}
	counted := func(low, high int) cake.Cut {
		return changed(one(0, 4, 4, 2), func(c *cake.Cut) { c.Boilings[0].Cut = to(low, high) })
	}
	for _, x := range []struct {
		name      string
		c         cake.Cut
		isRight   bool
		isCounted bool
	}{
		{"the same shade", one(0, 4, 4, 2), true, true},
		{"a step up", one(0, 4, 5, 2), false, true},
		{"a step down", one(0, 4, 3, 2), false, true},
		{"as far up as the Eye", one(2, 4, 6, 2), true, true},
		{"farther up than the Eye", one(2, 4, 7, 2), false, true},
		{"as far down as the Eye", one(2, 4, 2, 2), true, true},
		{"farther down than the Eye", one(2, 4, 1, 2), false, true},
		{"as far as the largest Eye", one(3, 9, 6, 2), true, true},
		{"farther than the largest Eye", one(3, 0, 4, 2), false, true},
		{"the first of some grains", one(0, 4, 4, 2, 3, 5), true, true},
		{"the last of some grains", one(0, 4, 4, 0, 1, 2), true, true},
		{"other grains", one(0, 4, 4, 0, 1, 3, 4, 5), false, true},
		{"no grains", one(0, 4, 4), false, true},
		{"both are false", one(0, 4, 5, 1), false, true},
		{"the fewest cakes", counted(1, 6), true, true},
		{"too few cakes", counted(2, 6), true, false},
		{"the most cakes", counted(0, 1), true, true},
		{"too many cakes", counted(0, 0), true, false},
	} {
		l := lot(list(x.c.Boilings[0].Shade.Lo), list(0))
		n, w, e := cake.Play(x.c, l)
		if !slices.Equal(n, list(1)) || (len(w) == 0) != x.isRight || e != api.OK {
			t.Errorf("%s: Play: %v, %v, %v", x.name, n, w, e)
		}
		is := x.isRight && x.isCounted
		if cake.ProveTruth(x.c, l) != is {
			t.Errorf("%s: ProveTruth is %v", x.name, !is)
		}
		whose, e := cake.Whose(x.c)
		if is && !equal(whose, [][]int{{0}}) || is != (e == api.OK) || !is && e != api.ErrFalse {
			t.Errorf("%s: Whose: %v, %v", x.name, whose, e)
		}
		left, f := cake.Leave(x.c)
		if x.isCounted && ((len(left) == 0) != x.isRight || f != api.OK) || !x.isCounted && f != api.ErrFail {
			t.Errorf("%s: Leave: %v, %v", x.name, left, f)
		}
	}
}

// P5.1
func TestLots(t *testing.T) {
	good := lot(list(4, 6, 5), list(0, 0, 2, 1))
	for _, x := range []struct {
		name  string
		c     cake.Cut
		l     cake.Lot
		truth bool
		e     api.Errno
	}{
		{"the example", three(), good, true, api.OK},
		{"a look is false", three(), lot(list(3, 5, 5), list(0, 2, 0, 2)), false, api.OK},
		{"the first look is false", three(), lot(list(4, 6, 5), list(2, 0, 0, 1)), false, api.OK},
		{"the last look is false", three(), lot(list(4, 6, 5), list(0, 1, 0, 2)), false, api.OK},
		{"too few cakes of a boiling", three(), lot(list(4, 6, 5), list(0, 2, 2, 1)), false, api.OK},
		{"too many cakes of a boiling", three(), lot(list(4, 6, 5), list(0, 0, 0, 1)), false, api.OK},
		{"without a truth", untrue(), good, false, api.OK},
		{"without a lot that is counted", uncounted(), good, false, api.OK},
		{"no cakes", sized(0, 3), lot(list(7), nil), true, api.OK},
		{"no cakes, though one was cut", changed(sized(0, 3), func(c *cake.Cut) { c.Boilings[0].Cut.Lo = 1 }), lot(list(7), nil), false, api.OK},
		{"no boilings, and no cakes", cake.Cut{Eye: 3}, cake.Lot{}, true, api.OK},
		{"the largest cut", largest(), lot(list(2, 5, 8), list(0, 0, 0, 1, 1, 2)), true, api.OK},
		{"too small a shade", three(), lot(list(2, 6, 5), good.Of), false, api.ErrRange},
		{"too great a shade", three(), lot(list(5, 6, 5), good.Of), false, api.ErrRange},
		{"too small a shade of the last boiling", three(), lot(list(4, 6, 4), good.Of), false, api.ErrRange},
		{"too great a shade of the last boiling", three(), lot(list(4, 6, 6), good.Of), false, api.ErrRange},
		{"a shade too few", three(), lot(list(4, 6), good.Of), false, api.ErrRange},
		{"a shade too many", three(), lot(list(4, 6, 5, 0), good.Of), false, api.ErrRange},
		{"many shades too many", three(), lot(append(list(4, 6, 5), make([]int, 99)...), good.Of), false, api.ErrRange},
		{"no shades", three(), lot(nil, good.Of), false, api.ErrRange},
		{"a cake too few", three(), lot(good.Shades, list(0, 0, 2)), false, api.ErrRange},
		{"a cake too many", three(), lot(good.Shades, list(0, 0, 2, 1, 0)), false, api.ErrRange},
		{"many cakes too many", three(), lot(good.Shades, append(list(0, 0, 2, 1), make([]int, 99)...)), false, api.ErrRange},
		{"of no boiling", three(), lot(good.Shades, list(-1, 0, 2, 1)), false, api.ErrRange},
		{"the last one of no boiling", three(), lot(good.Shades, list(0, 0, 2, 3)), false, api.ErrRange},
		{"of a boiling that is far away", three(), lot(good.Shades, list(0, math.MaxInt, math.MinInt, 1)), false, api.ErrRange},
		{"huge shades", three(), lot(list(math.MinInt, math.MaxInt, 5), good.Of), false, api.ErrRange},
		{"the zero value", three(), cake.Lot{}, false, api.ErrRange},
		{"cakes without boilings", unboiled(), lot(nil, list(0, 0)), false, api.ErrRange},
		{"nothing of cakes without boilings", unboiled(), cake.Lot{}, false, api.ErrRange},
		{"a shade of no boilings", cake.Cut{}, lot(list(0), nil), false, api.ErrRange},
		{"a cake of no cakes", sized(0, 3), lot(list(7), list(0)), false, api.ErrRange},
		{"no lot, and without a truth", untrue(), cake.Lot{}, false, api.ErrRange},
		{"not valid", changed(three(), func(c *cake.Cut) { c.Eye = 4 }), good, false, api.ErrArg},
		{"not valid, and no lot", changed(three(), func(c *cake.Cut) { c.Eye = 4 }), cake.Lot{}, false, api.ErrArg},
		{"too many lots", sized(6, 10, 10), lot(list(0, 0), make([]int, 6)), false, api.ErrLimit},
		{"too many cakes, and no lot", sized(7, 1), cake.Lot{}, false, api.ErrLimit},
	} {
		n, w, e := cake.Play(x.c, x.l)
		if e != x.e || e == api.OK && len(n) != len(x.c.Boilings) || e != api.OK && (n != nil || w != nil) {
			t.Errorf("%s: Play is %v, %v, %v", x.name, n, w, e)
		}
		if cake.ProveTruth(x.c, x.l) != x.truth {
			t.Errorf("%s: ProveTruth is %v", x.name, !x.truth)
		}
	}
}

// P5.1
func TestAllLots(t *testing.T) {
	for _, c := range append(cuts(), three(), untrue(), largest()) {
		for _, l := range allLots(c) {
			if n, w, e := cake.Play(c, l); !slices.Equal(n, countsIn(c, l)) || !slices.Equal(w, wrongIn(c, l)) || e != api.OK {
				t.Fatalf("Play of %v, %v: %v, %v, %v", c, l, n, w, e)
			}
		}
	}
	for _, c := range append(cuts(), three(), untrue()) {
		for _, l := range allLots(c) {
			if want := isCounted(c, l) && len(wrongIn(c, l)) == 0; cake.ProveTruth(c, l) != want {
				t.Fatalf("ProveTruth of %v, %v is not %v", c, l, want)
			}
		}
	}
}

// grained is the cut of the examples with other Grains of the cake 1.
func grained(grains ...int) cake.Cut {
	return changed(three(), func(c *cake.Cut) { c.Cakes[1].Grains = grains })
}

// P5.2, P5.3
func TestExamplesOfWhoseAndTones(t *testing.T) {
	if n := len(truthsOf(three())); n != 10 {
		t.Fatalf("the cut of the examples has %d truths", n)
	}
	for _, x := range []struct {
		c     cake.Cut
		whose [][]int
		tones []cake.Range
		e     api.Errno
	}{
		{three(), [][]int{{0}, {0, 1, 2}, {0, 2}, {1}}, ranges(3, 4, 4, 6, 3, 5, 5, 6), api.OK},
		{grained(1), [][]int{{0}, {1}, {0}, {1}}, ranges(3, 4, 5, 6, 3, 4, 5, 6), api.OK},
		{changed(three(), func(c *cake.Cut) { c.Boilings[2].Cut.Lo = 1 }), [][]int{{0}, {0, 2}, {0, 2}, {1}}, ranges(3, 4, 4, 5, 3, 5, 5, 6), api.OK}, // a count says of which boiling a cake is not
		{cake.Cut{}, nil, nil, api.OK},
		{sized(0, 3), nil, nil, api.OK},
		{untrue(), nil, nil, api.ErrFalse},
		{uncounted(), nil, nil, api.ErrFalse},
		{unboiled(), nil, nil, api.ErrFalse},
		{changed(sized(0, 3), func(c *cake.Cut) { c.Boilings[0].Cut.Lo = 1 }), nil, nil, api.ErrFalse},
		{changed(three(), func(c *cake.Cut) { c.Eye = 4 }), nil, nil, api.ErrArg},
		{sized(6, 10, 10), nil, nil, api.ErrLimit},
	} {
		l, e := cake.Whose(x.c)
		r, f := cake.Tones(x.c)
		if !equal(l, x.whose) || e != x.e || !slices.Equal(r, x.tones) || f != x.e {
			t.Errorf("Whose, Tones of %v: %v, %v; %v, %v", x.c, l, e, r, f)
		}
	}
}

// P5.3, P5.4
func TestExamplesOfApartAndSame(t *testing.T) {
	for _, x := range []struct {
		c          cake.Cut
		one, other int
		apart      cake.Range
		same       int
		e          api.Errno
	}{
		{three(), 0, 2, to(0, 1), perhaps, api.OK}, {three(), 2, 0, to(0, 1), perhaps, api.OK},
		{three(), 1, 2, to(1, 3), never, api.OK}, {three(), 2, 1, to(1, 3), never, api.OK},
		{grained(1), 1, 3, to(0, 0), always, api.OK}, {grained(1), 3, 1, to(0, 0), always, api.OK}, {grained(1), 0, 2, to(0, 0), always, api.OK},
		{three(), 0, 3, to(1, 3), never, api.OK}, {three(), 1, 3, to(0, 2), perhaps, api.OK},
		{three(), -1, 2, to(0, 0), 0, api.ErrRange}, {three(), 2, -1, to(0, 0), 0, api.ErrRange}, {three(), 4, 2, to(0, 0), 0, api.ErrRange}, {three(), 2, 4, to(0, 0), 0, api.ErrRange},
		{three(), 4, 4, to(0, 0), 0, api.ErrRange}, {three(), -1, -1, to(0, 0), 0, api.ErrRange}, {three(), math.MinInt, math.MaxInt, to(0, 0), 0, api.ErrRange},
		{three(), 0, 0, to(0, 0), 0, api.ErrTwice}, {three(), 3, 3, to(0, 0), 0, api.ErrTwice},
		{cake.Cut{}, 0, 1, to(0, 0), 0, api.ErrRange}, {cake.Cut{}, 0, 0, to(0, 0), 0, api.ErrRange}, {sized(1, 3), 0, 1, to(0, 0), 0, api.ErrRange},
		{untrue(), 0, 4, to(0, 0), 0, api.ErrRange}, {untrue(), 1, 1, to(0, 0), 0, api.ErrTwice}, {untrue(), 0, 1, to(0, 0), 0, api.ErrFalse},
		{uncounted(), 1, 1, to(0, 0), 0, api.ErrTwice}, {uncounted(), 0, 1, to(0, 0), 0, api.ErrFalse},
		{unboiled(), 0, 2, to(0, 0), 0, api.ErrRange}, {unboiled(), 1, 1, to(0, 0), 0, api.ErrTwice}, {unboiled(), 0, 1, to(0, 0), 0, api.ErrFalse},
		{changed(three(), func(c *cake.Cut) { c.Eye = 4 }), 9, 9, to(0, 0), 0, api.ErrArg}, {sized(6, 10, 10), 9, 9, to(0, 0), 0, api.ErrLimit},
	} {
		r, e := cake.Apart(x.c, x.one, x.other)
		n, f := cake.Same(x.c, x.one, x.other)
		if r != x.apart || e != x.e || n != x.same || f != x.e {
			t.Errorf("Apart, Same of %v, %d, %d: %v, %v; %d, %v", x.c, x.one, x.other, r, e, n, f)
		}
	}
}

// P5.4
func TestExamplesOfIn(t *testing.T) {
	for _, x := range []struct {
		c                cake.Cut
		of, grower, want int
		e                api.Errno
	}{
		{three(), 0, 1, always, api.OK}, {three(), 1, 2, perhaps, api.OK}, {three(), 3, 0, never, api.OK},
		{three(), 0, 0, always, api.OK}, {three(), 0, 2, never, api.OK}, {three(), 2, 1, perhaps, api.OK}, {three(), 3, 9, never, api.OK},
		{grained(1), 1, 1, always, api.OK}, {grained(1), 1, 2, never, api.OK},
		{changed(three(), func(c *cake.Cut) { c.Boilings[2].Plants = list(1, 9) }), 1, 1, always, api.OK}, // of whichever boiling it is
		{changed(three(), func(c *cake.Cut) { c.Boilings[2].Plants = list(1, 9) }), 1, 9, perhaps, api.OK},
		{three(), -1, 1, 0, api.ErrRange}, {three(), 4, 1, 0, api.ErrRange}, {three(), 0, -1, 0, api.ErrRange}, {three(), 0, 10, 0, api.ErrRange},
		{three(), math.MaxInt, 1, 0, api.ErrRange}, {three(), math.MinInt, 1, 0, api.ErrRange}, {three(), 0, math.MaxInt, 0, api.ErrRange}, {three(), 0, math.MinInt, 0, api.ErrRange},
		{cake.Cut{}, 0, 0, 0, api.ErrRange}, {sized(0, 3), 0, 0, 0, api.ErrRange},
		{untrue(), 4, 1, 0, api.ErrRange}, {untrue(), 0, 10, 0, api.ErrRange}, {untrue(), 0, 9, 0, api.ErrFalse}, {uncounted(), 0, 1, 0, api.ErrFalse}, {unboiled(), 0, 1, 0, api.ErrFalse}, {unboiled(), 2, 1, 0, api.ErrRange},
		{changed(three(), func(c *cake.Cut) { c.Eye = 4 }), 9, 10, 0, api.ErrArg}, {sized(6, 10, 10), 9, 10, 0, api.ErrLimit},
	} {
		if n, e := cake.In(x.c, x.of, x.grower); n != x.want || e != x.e {
			t.Errorf("In of %v, %d, %d: %d, %v", x.c, x.of, x.grower, n, e)
		}
	}
}

// seen counts the verdicts that are returned, so that a test can see whether the cuts say enough.
type seen map[int]int

func (s seen) check(t *testing.T, what string) {
	t.Helper()
	for v := always; v <= perhaps; v++ {
		if s[v] < 50 {
			t.Errorf("%s: the verdict %d comes only %d times: the cuts say too little", what, v, s[v])
		}
	}
}

// P5.2, P5.3
func TestWhoseAndTones(t *testing.T) {
	several := 0
	for _, c := range cuts() {
		truths := truthsOf(c)
		l, e := cake.Whose(c)
		r, f := cake.Tones(c)
		if len(truths) == 0 {
			if len(l) > 0 || e != api.ErrFalse || len(r) > 0 || f != api.ErrFalse {
				t.Errorf("Whose, Tones of %v: %v, %v; %v, %v", c, l, e, r, f)
			}
			continue
		}
		if !equal(l, wantWhose(c, truths)) || e != api.OK || !slices.Equal(r, wantTones(c, truths)) || f != api.OK {
			t.Errorf("Whose, Tones of %v: %v, %v; %v, %v", c, l, e, r, f)
		}
		if slices.ContainsFunc(l, func(of []int) bool { return len(of) > 1 }) {
			several++
		}
	}
	if several < 50 {
		t.Errorf("only %d cuts have a cake that can be of several boilings: they say too little", several)
	}
}

// P5.3, P5.4
func TestPairsAndPlants(t *testing.T) {
	same, in := seen{}, seen{}
	for _, c := range append(cuts(), three()) {
		truths := truthsOf(c)
		if len(truths) == 0 {
			continue
		}
		for i := range c.Cakes {
			for j := range c.Cakes {
				if i == j {
					continue
				}
				r, e := cake.Apart(c, i, j)
				n, f := cake.Same(c, i, j)
				same[n]++
				if r != wantApart(truths, i, j) || e != api.OK || n != wantSame(truths, i, j) || f != api.OK {
					t.Errorf("Apart, Same of %v, %d, %d: %v, %v; %d, %v", c, i, j, r, e, n, f)
				}
			}
			for g := range 10 {
				n, e := cake.In(c, i, g)
				in[n]++
				if n != wantIn(c, truths, i, g) || e != api.OK {
					t.Errorf("In of %v, %d, %d: %d, %v", c, i, g, n, e)
				}
			}
		}
	}
	same.check(t, "Same")
	in.check(t, "In")
}

// P5.5
func TestExamplesOfTry(t *testing.T) {
	alike := cake.Cut{Boilings: []cake.Boiling{boiling(to(3, 3), 0, to(0, 2)), boiling(to(3, 3), 0, to(0, 2))}, Cakes: []cake.Cake{look(3, 0), look(3, 0)}}
	for _, x := range []struct {
		name        string
		c           cake.Cut
		first, left int
		e           api.Errno
	}{
		{"the example", three(), 1, 4, api.OK},
		{"all is known but the shades", grained(1), 0, 4, api.OK},
		{"cakes that are alike", alike, 0, 2, api.OK},
		{"one truth", cake.Cut{Boilings: []cake.Boiling{boiling(to(3, 3), 0, to(0, 2))}, Cakes: []cake.Cake{look(3, 0), look(3, 0)}}, 0, 1, api.OK},
		{"no cakes", sized(0, 3), 0, 0, api.ErrNone},
		{"nothing", cake.Cut{}, 0, 0, api.ErrNone},
		{"no cakes, and without a truth", changed(sized(0, 3), func(c *cake.Cut) { c.Boilings[0].Cut.Lo = 1 }), 0, 0, api.ErrFalse},
		{"without a truth", untrue(), 0, 0, api.ErrFalse},
		{"without a lot that is counted", uncounted(), 0, 0, api.ErrFalse},
		{"without a lot", unboiled(), 0, 0, api.ErrFalse},
		{"not valid, and no cakes", cake.Cut{Eye: 4}, 0, 0, api.ErrArg},
		{"too many boilings, and no cakes", sized(0, 1, 1, 1, 1), 0, 0, api.ErrLimit},
	} {
		if i, n, e := cake.Try(x.c); i != x.first || n != x.left || e != x.e {
			t.Errorf("%s: %d, %d, %v", x.name, i, n, e)
		}
	}
}

// P5.5
func TestTry(t *testing.T) {
	later := 0
	for _, c := range append(cuts(), three()) {
		truths := truthsOf(c)
		if len(truths) == 0 || len(c.Cakes) == 0 {
			continue
		}
		i, n, e := cake.Try(c)
		if want, left := wantTry(c, truths); i != want || n != left || e != api.OK {
			t.Errorf("Try of %v: %d, %d, %v, not %d, %d", c, i, n, e, want, left)
		}
		if i > 0 {
			later++
		}
	}
	if later < 20 {
		t.Errorf("only %d cuts have a later cake to try first: they say too little", later)
	}
}

// P5.6
func TestExamplesOfFirstAndLeave(t *testing.T) {
	one := []cake.Boiling{boiling(to(3, 4), 0, to(0, 6))}
	two := []cake.Boiling{boiling(to(3, 3), 0, to(2, 2)), boiling(to(7, 7), 1, to(1, 2))}
	dark, light := look(7, 1), look(3, 0)
	for _, x := range []struct {
		name  string
		c     cake.Cut
		first int
		e     api.Errno
		leave []int
		f     api.Errno
	}{
		{"the example with the Eye 0", untrue(), 2, api.OK, list(0), api.OK},
		{"the example", three(), 0, api.ErrNone, nil, api.OK},
		{"no cakes", sized(0, 3), 0, api.ErrNone, nil, api.OK},
		{"nothing", cake.Cut{}, 0, api.ErrNone, nil, api.OK},
		{"all looks are false", cake.Cut{Boilings: one, Cakes: []cake.Cake{look(5, 0), look(2, 0), look(3, 1), look(4)}}, 0, api.OK, list(0, 1, 2, 3), api.OK},
		{"the last look is false", cake.Cut{Boilings: one, Cakes: []cake.Cake{look(3, 0), look(3, 0), look(3, 1)}}, 2, api.OK, list(2), api.OK},
		{"one of two shades", cake.Cut{Boilings: one, Cakes: []cake.Cake{look(3, 0), look(4, 0)}}, 1, api.OK, list(0), api.OK},
		{"fewer of one shade", cake.Cut{Boilings: one, Cakes: []cake.Cake{look(4, 0), look(3, 0), look(4, 0), look(4, 0)}}, 1, api.OK, list(1), api.OK},
		{"too many of a boiling", cake.Cut{Boilings: two, Cakes: []cake.Cake{dark, dark, light, dark}}, 3, api.OK, list(0), api.OK},
		{"too few of a boiling", cake.Cut{Boilings: two, Cakes: []cake.Cake{light, light, light}}, 2, api.OK, list(0), api.OK},
		{"one of no boiling, and too many", cake.Cut{Boilings: two, Cakes: []cake.Cake{dark, dark, dark, look(5, 0)}}, 2, api.OK, list(0, 3), api.OK},
		{"without a lot that is counted", uncounted(), 0, api.ErrFail, nil, api.ErrFail},
		{"without a lot", unboiled(), 0, api.ErrFail, nil, api.ErrFail},
		{"no cakes, though one was cut", changed(sized(0, 3), func(c *cake.Cut) { c.Boilings[0].Cut.Lo = 1 }), 0, api.ErrFail, nil, api.ErrFail},
		{"not valid", changed(three(), func(c *cake.Cut) { c.Eye = 4 }), 0, api.ErrArg, nil, api.ErrArg},
		{"too many lots", sized(6, 10, 10), 0, api.ErrLimit, nil, api.ErrLimit},
	} {
		n, e := cake.First(x.c)
		l, f := cake.Leave(x.c)
		if n != x.first || e != x.e || !slices.Equal(l, x.leave) || f != x.f {
			t.Errorf("%s: %d, %v; %v, %v", x.name, n, e, l, f)
		}
	}
}

// P5.6
func TestFirstAndLeave(t *testing.T) {
	wrong, longest := 0, 0
	for _, c := range append(cuts(), largest()) {
		first, isWrong := wantFirst(c)
		leave, ok := wantLeave(c)
		n, e := cake.First(c)
		l, f := cake.Leave(c)
		switch {
		case !ok:
			if n != 0 || e != api.ErrFail || len(l) > 0 || f != api.ErrFail {
				t.Errorf("First, Leave of %v: %d, %v; %v, %v", c, n, e, l, f)
			}
			continue
		case isWrong:
			wrong++
		default:
			first = 0
		}
		if n != first || isWrong != (e == api.OK) || !isWrong && e != api.ErrNone {
			t.Errorf("First of %v: %d, %v, not %d", c, n, e, first)
		}
		if !slices.Equal(l, leave) || f != api.OK {
			t.Errorf("Leave of %v: %v, %v, not %v", c, l, f, leave)
		}
		longest = max(longest, len(l))
	}
	if wrong < 80 || longest < 4 {
		t.Errorf("only %d cuts have a wrong look, and only %d are left out: they say too little", wrong, longest)
	}
}

// TestLargest asks all calls about the largest cut that is allowed.
func TestLargest(t *testing.T) {
	narrow := changed(largest(), func(c *cake.Cut) {
		c.Eye = 0
		for i := range c.Cakes {
			c.Cakes[i].Seen = 9
		}
	})
	if l, e := cake.Leave(narrow); !slices.Equal(l, list()) || e != api.OK {
		t.Errorf("Leave: %v, %v", l, e)
	}
	narrow.Boilings[2].Cut = to(0, 2)
	if l, e := cake.Leave(narrow); !slices.Equal(l, list(0, 1, 2, 3)) || e != api.OK {
		t.Errorf("Leave: %v, %v", l, e)
	}
	c := largest()
	truths := truthsOf(c)
	if len(allLots(c)) != 5832 || len(truths) < 500 {
		t.Fatalf("the cut has only %d truths", len(truths))
	}
	l, e := cake.Whose(c)
	r, f := cake.Tones(c)
	if !equal(l, wantWhose(c, truths)) || e != api.OK || !slices.Equal(r, wantTones(c, truths)) || f != api.OK {
		t.Errorf("Whose, Tones: %v, %v; %v, %v", l, e, r, f)
	}
	i, n, e := cake.Try(c)
	if first, left := wantTry(c, truths); i != first || n != left || e != api.OK {
		t.Errorf("Try: %d, %d, %v, not %d, %d", i, n, e, first, left)
	}
	for i := range 5 {
		if r, e := cake.Apart(c, i, 5); r != wantApart(truths, i, 5) || e != api.OK {
			t.Errorf("Apart of %d and 5: %v, %v", i, r, e)
		}
		if n, e := cake.Same(c, i, 5); n != wantSame(truths, i, 5) || e != api.OK {
			t.Errorf("Same of %d and 5: %d, %v", i, n, e)
		}
		for g := range 10 {
			if n, e := cake.In(c, i, g); n != wantIn(c, truths, i, g) || e != api.OK {
				t.Errorf("In of %d, %d: %d, %v", i, g, n, e)
			}
		}
	}
}
