package beat_test

import (
	"math"
	"slices"
	"testing"

	"anil/api"
	"anil/beat"
)

// The promises P3.1 to P3.6: the chapter's examples, the edges, and all beatings of the list against what the chapter defines.

// P3.1
func TestCheckBeating(t *testing.T) {
	vats := func(many int) beat.Beating { return beat.Beating{Vats: make([]beat.Vat, many)} }
	sizes := func(sun beat.Range, needs ...beat.Range) beat.Beating {
		b := beat.Beating{Sun: sun}
		for _, r := range needs {
			b.Vats = append(b.Vats, beat.Vat{Needs: r})
		}
		return b
	}
	last := func(b beat.Beating, n int) beat.Beating {
		b.Last = n
		return b
	}
	five := slices.Repeat([]beat.Sample{is(0, 0)}, 5)
	for _, x := range []struct {
		name string
		want api.Errno
		b    beat.Beating
	}{
		{"the example", api.OK, two()},
		{"the zero value", api.OK, beat.Beating{}},
		{"the largest beating", api.OK, largest(is(0, 9), not(1, 0), is(2, 9), not(0, 0), not(1, 9))},
		{"without a truth", api.OK, untrue()},
		{"Last 0", api.OK, last(two(), 0)},
		{"Last 9", api.OK, last(two(), 9)},
		{"Last 10", api.ErrLimit, last(two(), 10)},
		{"Last 10, and a bad Sun", api.ErrLimit, last(sizes(to(1, 0)), 10)},
		{"a huge Last", api.ErrLimit, last(two(), math.MaxInt)},
		{"Last -1", api.ErrArg, last(two(), -1)},
		{"the smallest Last", api.ErrArg, last(two(), math.MinInt)},
		{"3 vats", api.OK, vats(3)},
		{"4 vats", api.ErrLimit, vats(4)},
		{"4 vats, and Last -1", api.ErrLimit, last(vats(4), -1)},
		{"5 samples", api.OK, two(five...)},
		{"6 samples", api.ErrLimit, two(append(five, is(0, 0))...)},
		{"6 samples, one not valid", api.ErrLimit, two(append(five, is(2, 7))...)},
		{"6 samples, and no vats", api.ErrLimit, with(vats(0), append(five, is(0, 0))...)},
		{"a sample, and no vats", api.ErrArg, with(vats(0), is(0, 0))},
		{"200 courses", api.OK, sizes(to(0, 4), to(0, 9), to(6, 9))},
		{"210 courses", api.ErrLimit, sizes(to(0, 4), to(0, 6), to(4, 9))},
		{"200 courses of three vats", api.OK, sizes(to(4, 4), to(0, 9), to(0, 9), to(8, 9))},
		{"210 courses of three vats", api.ErrLimit, sizes(to(4, 4), to(0, 9), to(3, 9), to(7, 9))},
		{"216 courses of the Sun and three vats", api.ErrLimit, sizes(to(0, 3), to(0, 2), to(4, 6), to(0, 5))},
		{"210 courses, and Last -1", api.ErrArg, last(sizes(to(0, 4), to(0, 6), to(4, 9)), -1)},
		{"210 courses, and a bad sample", api.ErrArg, with(sizes(to(0, 4), to(0, 6), to(4, 9)), is(2, 0))},
		{"all courses of the largest ranges", api.ErrLimit, sizes(to(0, 4), to(0, 9), to(0, 9), to(0, 9))},
	} {
		if e := beat.CheckBeating(x.b); e != x.want {
			t.Errorf("%s: %v", x.name, e)
		}
	}
}

// P3.1: TestCheckNumbers changes one number of a beating at a time, to both sides of its limits.
func TestCheckNumbers(t *testing.T) {
	for _, x := range []struct {
		name      string
		low, high int // what is valid
		set       func(b *beat.Beating, n int)
	}{
		{"Last", 3, 9, func(b *beat.Beating, n int) { b.Last = min(n, api.MaxBeatLast) }}, // the sample 0 is at the hour 3
		{"Early", 0, 20, func(b *beat.Beating, n int) { b.Vats[0].Early = n }},
		{"Early of the last vat", 0, 20, func(b *beat.Beating, n int) { b.Vats[1].Early = n }},
		{"Late", 0, 20, func(b *beat.Beating, n int) { b.Vats[0].Late = n }},
		{"Late of the last vat", 0, 20, func(b *beat.Beating, n int) { b.Vats[1].Late = n }},
		{"Vat of a sample", 0, 1, func(b *beat.Beating, n int) { b.Samples[0].Vat = n }},
		{"Vat of the last sample", 0, 1, func(b *beat.Beating, n int) { b.Samples[1].Vat = n }},
		{"Hour of a sample", 0, 6, func(b *beat.Beating, n int) { b.Samples[0].Hour = n }},
		{"Hour of the last sample", 0, 6, func(b *beat.Beating, n int) { b.Samples[1].Hour = n }},
	} {
		for _, n := range list(x.low, x.high, x.low-1, x.high+1, (x.low+x.high)/2, math.MinInt, math.MaxInt, -7, 77777) {
			b := two(not(1, 3), is(0, 2))
			x.set(&b, n)
			checks(t, b, x.low <= n && n <= x.high || x.name == "Last" && n > 9)
		}
	}
}

// P3.1: TestCheckRanges changes one range of a beating at a time.
func TestCheckRanges(t *testing.T) {
	all := ranges(0, 0, 4, 4, 0, 4, 3, 5, 5, 5, 9, 9, 0, 9, 8, 10, 10, 10, -1, 3, -2, -1, 4, 3, 1, 0, 9, 8, 0, 10,
		math.MinInt, math.MaxInt, math.MaxInt, math.MinInt, 0, math.MaxInt, math.MinInt, 0, math.MaxInt, math.MaxInt, math.MinInt, math.MinInt)
	for _, r := range all {
		isUpTo := func(most int) bool { return 0 <= r.Lo && r.Lo <= r.Hi && r.Hi <= most }
		b := two(is(0, 2))
		b.Sun = r
		checks(t, b, isUpTo(4))
		for v := range 2 {
			b := two(is(0, 2))
			b.Vats[v].Needs = r
			checks(t, b, isUpTo(9))
		}
	}
}

func checks(t *testing.T, b beat.Beating, valid bool) {
	t.Helper()
	want := api.ErrArg
	if valid {
		want = api.OK
	}
	if e := beat.CheckBeating(b); e != want {
		t.Errorf("CheckBeating of %v: %v", b, e)
	}
}

// P3.1
func TestExamplesOfPlay(t *testing.T) {
	for _, x := range []struct {
		b       beat.Beating
		c       beat.Course
		endings []int
		want    []int
	}{
		{two(), course(0, 2, 3), list(3, 3), list(2, 0)},
		{two(), course(1, 4, 3), list(3, 3), list(6, 1)},
		{untrue(), course(0, 2, 3), list(3, 3), list(2, 0)}, // Play does not ask about samples
		{beat.Beating{}, course(0), nil, nil},
	} {
		if l, e := beat.Play(x.b, x.c, x.endings); !slices.Equal(l, x.want) || e != api.OK {
			t.Errorf("Play of %v, %v, %v: %v, %v", x.b, x.c, x.endings, l, e)
		}
	}
}

// P3.1: what is lost just when a vat is done, and an hour before and after.
func TestEdgesOfLosses(t *testing.T) {
	for _, x := range []struct {
		name                                string
		sun, needs, early, late, last, hour int
		want                                int
	}{
		{"just when it is done", 1, 3, 7, 5, 6, 4, 0},
		{"an hour before", 1, 3, 7, 5, 6, 3, 7},
		{"an hour after", 1, 3, 7, 5, 6, 5, 5},
		{"three hours before", 1, 3, 7, 5, 6, 1, 21},
		{"two hours after", 1, 3, 7, 5, 6, 6, 10},
		{"without a loss before", 1, 3, 0, 5, 6, 0, 0},
		{"without a loss after", 1, 3, 7, 0, 6, 6, 0},
		{"done at the hour 0", 0, 0, 7, 5, 6, 0, 0},
		{"done after Last", 4, 9, 7, 5, 9, 9, 28},
		{"the most before", 4, 9, 20, 20, 0, 0, 260},
		{"the most after", 0, 0, 20, 20, 9, 9, 180},
	} {
		b := beat.Beating{Sun: to(x.sun, x.sun), Vats: []beat.Vat{vat(x.needs, x.needs, x.early, x.late)}, Last: x.last}
		l, e := beat.Play(b, course(x.sun, x.needs), list(x.hour))
		r, f := beat.Losses(b, list(x.hour))
		if !slices.Equal(l, list(x.want)) || e != api.OK || r != to(x.want, x.want) || f != api.OK {
			t.Errorf("%s: %v, %v; %v, %v", x.name, l, e, r, f)
		}
		want := never
		if x.hour >= x.sun+x.needs {
			want = always
		}
		if n, e := beat.Done(b, 0, x.hour); n != want || e != api.OK {
			t.Errorf("%s: Done: %d, %v", x.name, n, e)
		}
	}
}

// P3.1
func TestCourses(t *testing.T) {
	short := two()
	short.Last = 2
	for _, x := range []struct {
		name    string
		b       beat.Beating
		c       beat.Course
		endings []int
		truth   bool
		e       api.Errno
	}{
		{"the example", two(), course(0, 2, 3), list(3, 3), true, api.OK},
		{"the lowest numbers", two(), course(0, 2, 3), list(0, 0), true, api.OK},
		{"the highest numbers", two(), course(1, 4, 3), list(6, 6), true, api.OK},
		{"a sample that is right", two(not(0, 3)), course(0, 4, 3), list(3, 3), true, api.OK},
		{"a sample that is false", two(not(0, 3)), course(1, 2, 3), list(3, 3), false, api.OK},
		{"the last one of samples is false", two(is(1, 3), not(0, 2), is(0, 2)), course(0, 3, 3), list(3, 3), false, api.OK},
		{"the first one of samples is false", two(not(1, 3), is(0, 3), is(0, 6)), course(0, 3, 3), list(3, 3), false, api.OK},
		{"without a truth", untrue(), course(0, 3, 3), list(3, 3), false, api.OK},
		{"no vats", beat.Beating{Sun: to(0, 1)}, course(1), list(), true, api.OK},
		{"the largest beating", largest(), course(4, 9, 6, 9), list(9, 0, 9), true, api.OK},
		{"too small a Sun", two(), course(-1, 2, 3), list(3, 3), false, api.ErrRange},
		{"too great a Sun", two(), course(2, 2, 3), list(3, 3), false, api.ErrRange},
		{"too small Needs", two(), course(0, 1, 3), list(3, 3), false, api.ErrRange},
		{"too great Needs", two(), course(0, 5, 3), list(3, 3), false, api.ErrRange},
		{"too small Needs of the last vat", two(), course(0, 2, 2), list(3, 3), false, api.ErrRange},
		{"too great Needs of the last vat", two(), course(0, 2, 4), list(3, 3), false, api.ErrRange},
		{"a vat too few", two(), course(0, 2), list(3, 3), false, api.ErrRange},
		{"a vat too many", two(), course(0, 2, 3, 0), list(3, 3), false, api.ErrRange},
		{"many vats too many", two(), course(0, append(list(2, 3), make([]int, 99)...)...), list(3, 3), false, api.ErrRange},
		{"the zero value", two(), beat.Course{}, list(3, 3), false, api.ErrRange},
		{"a vat for no vats", beat.Beating{}, course(0, 0), nil, false, api.ErrRange},
		{"huge", two(), course(math.MaxInt, math.MinInt, math.MaxInt), list(3, 3), false, api.ErrRange},
		{"no course, and without a truth", untrue(), beat.Course{}, list(3, 3), false, api.ErrRange},
		{"an ending too few", two(), course(0, 2, 3), list(3), true, api.ErrRange},
		{"an ending too many", two(), course(0, 2, 3), list(3, 3, 0), true, api.ErrRange},
		{"no endings", two(), course(0, 2, 3), nil, true, api.ErrRange},
		{"an ending for no vats", beat.Beating{}, course(0), list(0), true, api.ErrRange},
		{"an ending before the hour 0", two(), course(0, 2, 3), list(-1, 3), true, api.ErrRange},
		{"the last ending before the hour 0", two(), course(0, 2, 3), list(3, -1), true, api.ErrRange},
		{"an ending after Last", two(), course(0, 2, 3), list(7, 3), true, api.ErrRange},
		{"the last ending after Last", two(), course(0, 2, 3), list(3, 7), true, api.ErrRange},
		{"an ending after a smaller Last", short, course(0, 2, 3), list(3, 2), true, api.ErrRange},
		{"huge endings", two(), course(0, 2, 3), list(math.MinInt, math.MaxInt), true, api.ErrRange},
		{"no course, and no endings", two(), course(2, 2, 3), list(7, 3), false, api.ErrRange},
		{"not valid", two(is(2, 0)), course(0, 2, 3), list(3, 3), false, api.ErrArg},
		{"not valid, and no course", beat.Beating{Last: -1}, course(1), list(3), false, api.ErrArg},
		{"too many samples", two(slices.Repeat([]beat.Sample{is(0, 6)}, 6)...), course(0, 2, 3), list(3, 3), false, api.ErrLimit},
	} {
		l, e := beat.Play(x.b, x.c, x.endings)
		if e != x.e || e == api.OK && len(l) != len(x.b.Vats) || e != api.OK && l != nil {
			t.Errorf("%s: Play is %v, %v", x.name, l, e)
		}
		if beat.ProveTruth(x.b, x.c) != x.truth {
			t.Errorf("%s: ProveTruth is %v", x.name, !x.truth)
		}
	}
}

// P3.1
func TestPlayOfAllCourses(t *testing.T) {
	for _, b := range append(beatings(), two(), untrue()) {
		for _, c := range allCourses(b) {
			for _, endings := range allEndings(b) {
				var want []int
				for v, hour := range endings {
					want = append(want, lostIn(b, c, v, hour))
				}
				if l, e := beat.Play(b, c, endings); !slices.Equal(l, want) || e != api.OK {
					t.Fatalf("Play of %v, %v, %v: %v, %v", b, c, endings, l, e)
				}
			}
		}
	}
}

// P3.1
func TestProveAllTruths(t *testing.T) {
	for _, b := range append(beatings(), two(), two(not(0, 3)), untrue(), largest(not(1, 9))) {
		for _, c := range allCourses(b) {
			if want := len(wrongIn(b, c)) == 0; beat.ProveTruth(b, c) != want {
				t.Errorf("ProveTruth of %v, %v is not %v", b, c, want)
			}
		}
	}
}

// P3.2
func TestExamplesOfBounds(t *testing.T) {
	for _, x := range []struct {
		b    beat.Beating
		want []beat.Range
		e    api.Errno
	}{
		{two(), ranges(2, 5, 3, 4), api.OK},
		{two(not(0, 3)), ranges(4, 5, 3, 4), api.OK},
		{two(not(1, 3)), ranges(3, 5, 4, 4), api.OK}, // the Sun is 1 then
		{two(is(0, 2)), ranges(2, 2, 3, 3), api.OK},
		{largest(), ranges(0, 13, 6, 13, 9, 13), api.OK}, // after Last
		{beat.Beating{}, nil, api.OK},
		{untrue(), nil, api.ErrFalse}, {two(is(2, 0)), nil, api.ErrArg}, {beat.Beating{Last: 10}, nil, api.ErrLimit},
	} {
		if l, e := beat.Bounds(x.b); !slices.Equal(l, x.want) || e != x.e {
			t.Errorf("Bounds of %v: %v, %v", x.b, l, e)
		}
	}
}

// P3.2
func TestExamplesOfDone(t *testing.T) {
	for _, x := range []struct {
		b              beat.Beating
		in, hour, want int
		e              api.Errno
	}{
		{two(), 0, 1, never, api.OK}, {two(), 0, 2, perhaps, api.OK}, {two(), 0, 4, perhaps, api.OK}, {two(), 0, 5, always, api.OK}, {two(), 0, 6, always, api.OK}, {two(), 0, 0, never, api.OK},
		{two(), 1, 2, never, api.OK}, {two(), 1, 3, perhaps, api.OK}, {two(), 1, 4, always, api.OK},
		{two(not(1, 3)), 1, 3, never, api.OK}, {two(is(1, 3)), 1, 3, always, api.OK}, {two(is(0, 2)), 1, 3, always, api.OK},
		{two(), 0, 7, 0, api.ErrRange}, {two(), 0, -1, 0, api.ErrRange}, {two(), 2, 1, 0, api.ErrRange}, {two(), -1, 1, 0, api.ErrRange}, {beat.Beating{}, 0, 0, 0, api.ErrRange},
		{two(), 0, math.MaxInt, 0, api.ErrRange}, {two(), 0, math.MinInt, 0, api.ErrRange}, {two(), math.MaxInt, 0, 0, api.ErrRange}, {two(), math.MinInt, 0, 0, api.ErrRange},
		{untrue(), 0, 7, 0, api.ErrRange}, {untrue(), 2, 1, 0, api.ErrRange}, {untrue(), 0, 6, 0, api.ErrFalse}, {untrue(), 1, 0, 0, api.ErrFalse},
		{two(is(2, 0)), 9, 9, 0, api.ErrArg}, {beat.Beating{Last: 10}, 9, 9, 0, api.ErrLimit},
	} {
		if n, e := beat.Done(x.b, x.in, x.hour); n != x.want || e != x.e {
			t.Errorf("Done of %v, %d, %d: %d, %v", x.b, x.in, x.hour, n, e)
		}
	}
}

// P3.2
func TestBoundsAndDone(t *testing.T) {
	said := map[int]int{}
	for _, b := range beatings() {
		truths := truthsOf(b)
		l, e := beat.Bounds(b)
		if len(truths) == 0 {
			if len(l) > 0 || e != api.ErrFalse {
				t.Errorf("Bounds of %v: %v, %v", b, l, e)
			}
			continue
		}
		if !slices.Equal(l, wantBounds(b, truths)) || e != api.OK {
			t.Errorf("Bounds of %v: %v, %v", b, l, e)
		}
		for v := range b.Vats {
			for h := range b.Last + 1 {
				n, e := beat.Done(b, v, h)
				said[n]++
				if want := wantDone(truths, v, h); n != want || e != api.OK {
					t.Errorf("Done of %v, %d, %d: %d, %v, not %d", b, v, h, n, e, want)
				}
			}
		}
	}
	for v := always; v <= perhaps; v++ {
		if said[v] < 50 {
			t.Errorf("the verdict %d comes only %d times: the beatings say too little", v, said[v])
		}
	}
}

// P3.3
func TestExamplesOfLosses(t *testing.T) {
	for _, x := range []struct {
		b       beat.Beating
		endings []int
		want    beat.Range
		e       api.Errno
	}{
		{two(), list(3, 3), to(0, 7), api.OK}, {two(), list(4, 3), to(0, 4), api.OK}, {two(), list(6, 6), to(12, 23), api.OK},
		{two(not(0, 3)), list(3, 3), to(3, 7), api.OK}, {two(not(0, 3)), list(5, 3), to(1, 3), api.OK},
		{beat.Beating{}, nil, to(0, 0), api.OK}, {beat.Beating{Sun: to(0, 4)}, list(), to(0, 0), api.OK},
		{two(), list(7, 3), to(0, 0), api.ErrRange}, {two(), list(3, 7), to(0, 0), api.ErrRange}, {two(), list(-1, 3), to(0, 0), api.ErrRange}, {two(), list(3, -1), to(0, 0), api.ErrRange},
		{two(), list(3), to(0, 0), api.ErrRange}, {two(), list(3, 3, 3), to(0, 0), api.ErrRange}, {two(), nil, to(0, 0), api.ErrRange}, {beat.Beating{}, list(0), to(0, 0), api.ErrRange},
		{two(), list(math.MinInt, math.MaxInt), to(0, 0), api.ErrRange}, {two(), make([]int, 999), to(0, 0), api.ErrRange},
		{untrue(), list(3, 3), to(0, 0), api.ErrFalse}, {untrue(), list(3, 7), to(0, 0), api.ErrRange}, {untrue(), list(3), to(0, 0), api.ErrRange},
		{two(is(2, 0)), list(9), to(0, 0), api.ErrArg}, {beat.Beating{Last: 10}, list(9), to(0, 0), api.ErrLimit},
	} {
		r, e := beat.Losses(x.b, x.endings)
		if r != x.want || e != x.e {
			t.Errorf("Losses of %v, %v: %v, %v", x.b, x.endings, r, e)
		}
		for _, n := range list(x.want.Hi, x.want.Hi+1, math.MaxInt, x.want.Hi-1, -1, math.MinInt) {
			if beat.ProveBest(x.b, x.endings, n) != (x.e == api.OK && n >= x.want.Hi) {
				t.Errorf("ProveBest of %v, %v, %d", x.b, x.endings, n)
			}
		}
	}
}

// P3.3, P3.4
func TestLossesAndBest(t *testing.T) {
	lost := 0
	for _, b := range beatings() {
		truths := truthsOf(b)
		if len(truths) == 0 {
			continue
		}
		for _, endings := range allEndings(b) {
			want := wantLosses(b, truths, endings)
			if r, e := beat.Losses(b, endings); r != want || e != api.OK {
				t.Errorf("Losses of %v, %v: %v, %v, not %v", b, endings, r, e, want)
			}
			if !beat.ProveBest(b, endings, want.Hi) || beat.ProveBest(b, endings, want.Hi-1) {
				t.Errorf("ProveBest of %v, %v: the worst loss is %d", b, endings, want.Hi)
			}
		}
		want, worst := wantBest(b, truths)
		if l, n, e := beat.Best(b); !slices.Equal(l, want) || n != worst || e != api.OK {
			t.Errorf("Best of %v: %v, %d, %v, not %v, %d", b, l, n, e, want, worst)
		}
		if worst > 0 {
			lost++
		}
	}
	if lost < 50 {
		t.Errorf("only with %d beatings something is lost: they say too little", lost)
	}
}

// P3.4
func TestExamplesOfBest(t *testing.T) {
	last := func(n int) beat.Beating {
		b := two()
		b.Last = n
		return b
	}
	one := func(last int, l ...beat.Vat) beat.Beating {
		return beat.Beating{Vats: l, Last: last}
	}
	for _, x := range []struct {
		name  string
		b     beat.Beating
		want  []int
		worst int
		e     api.Errno
	}{
		{"the example", two(), list(4, 3), 4, api.OK},
		{"with a sample", two(not(0, 3)), list(5, 3), 3, api.OK},
		{"with Last 3", last(3), list(3, 3), 7, api.OK},
		{"with the hour 0 alone", last(0), list(0, 0), 19, api.OK},
		{"of DOC.md", one(9, vat(2, 5, 3, 2)), list(4), 4, api.OK},
		{"equal ones", one(9, vat(2, 3, 1, 1)), list(2), 1, api.OK},
		{"nothing is lost", one(9, vat(2, 5, 0, 0), vat(0, 9, 0, 0)), list(0, 0), 0, api.OK},
		{"only who ends early loses", one(9, vat(2, 5, 3, 0)), list(5), 0, api.OK},
		{"only who ends late loses", one(9, vat(2, 5, 0, 3)), list(0), 0, api.OK},
		{"known", one(9, vat(4, 4, 1, 1), vat(9, 9, 20, 20), vat(0, 0, 1, 9)), list(4, 9, 0), 0, api.OK},
		{"done after Last", one(5, vat(9, 9, 3, 2)), list(5), 12, api.OK},
		{"no vats", beat.Beating{Sun: to(1, 4), Last: 3}, nil, 0, api.OK},
		{"without a truth", untrue(), nil, 0, api.ErrFalse},
		{"not valid", two(is(2, 0)), nil, 0, api.ErrArg},
		{"too long", beat.Beating{Last: 10}, nil, 0, api.ErrLimit},
	} {
		l, n, e := beat.Best(x.b)
		if !slices.Equal(l, x.want) || n != x.worst || e != x.e {
			t.Errorf("%s: %v, %d, %v", x.name, l, n, e)
		}
		if beat.ProveBest(x.b, l, n) != (x.e == api.OK) || beat.ProveBest(x.b, l, n-1) {
			t.Errorf("%s: ProveBest", x.name)
		}
	}
}

// P3.5
func TestExamplesOfAsk(t *testing.T) {
	sure := beat.Beating{Sun: to(1, 1), Vats: []beat.Vat{vat(2, 2, 1, 1), vat(3, 3, 1, 1)}, Last: 2}
	other := beat.Beating{Vats: []beat.Vat{vat(2, 2, 1, 1), vat(1, 2, 3, 3)}, Last: 3}
	sun := beat.Beating{Sun: to(0, 1), Vats: []beat.Vat{vat(1, 1, 0, 0), vat(1, 1, 3, 3)}, Last: 3}
	late := beat.Beating{Sun: to(0, 1), Vats: []beat.Vat{vat(3, 3, 0, 0), vat(1, 1, 3, 3)}, Last: 3}
	twins := beat.Beating{Vats: []beat.Vat{vat(1, 2, 3, 3), vat(1, 2, 3, 3)}, Last: 3}
	for _, x := range []struct {
		name           string
		b              beat.Beating
		in, hour, left int
		e              api.Errno
	}{
		{"the example", two(), 0, 3, 3, api.OK},
		{"with a sample", two(not(0, 3)), 0, 4, 1, api.OK},
		{"with as many samples as there can be", two(not(0, 3), not(0, 3), not(0, 2), is(0, 5), is(1, 6)), 0, 4, 1, api.OK},
		{"one truth, and something is lost", sure, 0, 0, 3, api.OK},
		{"the other vat is not known", other, 1, 1, 0, api.OK},
		{"a vat says how the Sun is", sun, 0, 1, 0, api.OK},
		{"a vat says it at the last hour alone", late, 0, 3, 0, api.OK},
		{"vats that are alike", twins, 0, 1, 3, api.OK},
		{"nothing is lost", beat.Beating{Sun: to(0, 4), Vats: []beat.Vat{vat(0, 9, 0, 0)}, Last: 9}, 0, 0, 0, api.OK},
		{"the hour 0 alone", beat.Beating{Vats: []beat.Vat{vat(0, 1, 5, 5)}}, 0, 0, 5, api.OK},
		{"no vats", beat.Beating{Sun: to(0, 4)}, 0, 0, 0, api.ErrNone},
		{"without a truth", untrue(), 0, 0, 0, api.ErrFalse},
		{"not valid", two(is(2, 0)), 0, 0, 0, api.ErrArg},
		{"not valid, and no vats", beat.Beating{Last: -1}, 0, 0, 0, api.ErrArg},
		{"too long, and no vats", beat.Beating{Last: 10}, 0, 0, 0, api.ErrLimit},
	} {
		if v, h, n, e := beat.Ask(x.b); v != x.in || h != x.hour || n != x.left || e != x.e {
			t.Errorf("%s: %d, %d, %d, %v", x.name, v, h, n, e)
		}
	}
}

// P3.5
func TestAsk(t *testing.T) {
	helped, later := 0, 0
	for _, b := range beatings() {
		truths := truthsOf(b)
		if len(truths) == 0 || len(b.Vats) == 0 {
			continue
		}
		v, h, n, e := beat.Ask(b)
		if w, i, m := wantAsk(b, truths); v != w || h != i || n != m || e != api.OK {
			t.Errorf("Ask of %v: %d, %d, %d, %v, not %d, %d, %d", b, v, h, n, e, w, i, m)
		}
		if _, worst := wantBest(b, truths); n < worst {
			helped++
		}
		if v > 0 {
			later++
		}
	}
	if helped < 30 || later < 10 {
		t.Errorf("a sample helps only %d times, and one of a later vat %d times: the beatings say too little", helped, later)
	}
}

// P3.6
func TestExamplesOfFirstAndLeave(t *testing.T) {
	for _, x := range []struct {
		b     beat.Beating
		first int
		e     api.Errno
		leave []int
	}{
		{beat.Beating{}, 0, api.ErrNone, nil}, {two(), 0, api.ErrNone, nil}, {two(not(0, 3)), 0, api.ErrNone, nil},
		{untrue(), 1, api.OK, list(0)},
		{two(is(0, 2), not(1, 3)), 1, api.OK, list(0)},
		{two(is(0, 1)), 0, api.OK, list(0)},
		{two(not(0, 5)), 0, api.OK, list(0)},
		{two(is(1, 3), not(1, 3), is(0, 2)), 1, api.OK, list(1)},
		{two(not(1, 3), not(1, 3), is(0, 2)), 2, api.OK, list(2)},
		{two(not(1, 3), is(0, 2), not(1, 3), is(0, 2)), 1, api.OK, list(0, 2)},
		{two(is(0, 1), not(0, 3), is(1, 2), is(0, 3), not(1, 4)), 0, api.OK, list(0, 1, 2, 4)},
		{two(is(0, 1), is(0, 1), is(0, 0), not(0, 6), not(1, 4)), 0, api.OK, list(0, 1, 2, 3, 4)},
		{two(is(1, 4), not(0, 1), is(0, 5), not(1, 2), is(1, 2)), 4, api.OK, list(4)},
	} {
		n, e := beat.First(x.b)
		l, f := beat.Leave(x.b)
		if n != x.first || e != x.e || !slices.Equal(l, x.leave) || f != api.OK {
			t.Errorf("First, Leave of %v: %d, %v; %v, %v", x.b, n, e, l, f)
		}
	}
	for _, x := range []struct {
		b beat.Beating
		e api.Errno
	}{{beat.Beating{Last: -1}, api.ErrArg}, {two(is(2, 0)), api.ErrArg}, {beat.Beating{Last: 10}, api.ErrLimit}} {
		n, e := beat.First(x.b)
		l, f := beat.Leave(x.b)
		if n != 0 || e != x.e || len(l) > 0 || f != x.e {
			t.Errorf("First, Leave of %v: %d, %v; %v, %v", x.b, n, e, l, f)
		}
	}
}

// P3.6
func TestFirstAndLeave(t *testing.T) {
	wrong := 0
	for _, b := range beatings() {
		want, isWrong := wantFirst(b)
		if isWrong {
			wrong++
		}
		n, e := beat.First(b)
		if n != want || isWrong != (e == api.OK) || !isWrong && e != api.ErrNone {
			t.Errorf("First of %v: %d, %v, not %d", b, n, e, want)
		}
		if l, e := beat.Leave(b); !slices.Equal(l, wantLeave(b)) || e != api.OK {
			t.Errorf("Leave of %v: %v, %v", b, l, e)
		}
	}
	if wrong < 40 {
		t.Errorf("only %d beatings have a wrong sample: they say too little", wrong)
	}
}

// TestLargest asks all calls about the largest beating that is allowed.
func TestLargest(t *testing.T) {
	for _, b := range []beat.Beating{largest(), largest(not(2, 9), is(0, 9), not(1, 6), not(0, 3), not(1, 8))} {
		truths := truthsOf(b)
		if len(truths) < 20 {
			t.Fatalf("the beating has only %d truths", len(truths))
		}
		if l, e := beat.Bounds(b); !slices.Equal(l, wantBounds(b, truths)) || e != api.OK {
			t.Errorf("Bounds: %v, %v", l, e)
		}
		for v := range b.Vats {
			for h := range b.Last + 1 {
				if n, e := beat.Done(b, v, h); n != wantDone(truths, v, h) || e != api.OK {
					t.Errorf("Done of %d, %d: %d, %v", v, h, n, e)
				}
			}
		}
		want, worst := wantBest(b, truths)
		if l, n, e := beat.Best(b); !slices.Equal(l, want) || n != worst || e != api.OK {
			t.Errorf("Best: %v, %d, %v, not %v, %d", l, n, e, want, worst)
		}
		v, h, n, e := beat.Ask(b)
		if w, i, m := wantAsk(b, truths); v != w || h != i || n != m || e != api.OK {
			t.Errorf("Ask: %d, %d, %d, %v, not %d, %d, %d", v, h, n, e, w, i, m)
		}
	}
	for _, l := range [][]beat.Sample{{is(2, 9), not(0, 9), is(1, 8), not(1, 7), not(0, 3)}, {is(2, 8), not(0, 9), is(0, 2), is(1, 6), not(2, 9)}} {
		b := largest(l...)
		if l, e := beat.Leave(b); !slices.Equal(l, wantLeave(b)) || e != api.OK {
			t.Errorf("Leave of %v: %v, %v", b, l, e)
		}
	}
}
