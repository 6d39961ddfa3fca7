package shelf_test

import (
	"math"
	"slices"
	"testing"

	"anil/api"
	"anil/shelf"
)

// The promises P6.1 to P6.6: the chapter's examples, the edges, and all lofts of the list against what the chapter defines.

func equalLists(a, b [][]int) bool { return slices.EqualFunc(a, b, slices.Equal[[]int]) }

// sized returns a loft with cakes whose Water has these sizes, on the one shelf that it has.
func sized(sizes ...int) shelf.Loft {
	l := shelf.Loft{Air: ranges(3, 3), Shelves: []shelf.Board{board(5, 0)}}
	for _, n := range sizes {
		l.Cakes, l.Put = append(l.Cakes, cake(0, 41-n, 40, 1)), append(l.Put, 0)
	}
	return l
}

// long returns a loft with these Air, and nothing else.
func long(air ...shelf.Range) shelf.Loft { return shelf.Loft{Last: len(air) - 1, Air: air} }

// put returns the loft of the examples with another Put, and with 2 as the Room of both shelves.
func put(l ...int) shelf.Loft {
	return changed(two(), func(z *shelf.Loft) { z.Shelves[0].Room, z.Put = 2, l })
}

// P6.1
func TestCheckLoft(t *testing.T) {
	bad := func(l shelf.Loft) shelf.Loft {
		return changed(l, func(l *shelf.Loft) { l.Shelves = append(l.Shelves, board(0, 5)) })
	}
	aired := func(l shelf.Loft, air ...shelf.Range) shelf.Loft {
		return changed(l, func(l *shelf.Loft) { l.Last, l.Air = len(air)-1, air })
	}
	for _, x := range []struct {
		name string
		want api.Errno
		l    shelf.Loft
	}{
		{"the example", api.OK, two()},
		{"nothing but the day 0", api.OK, empty()},
		{"the largest loft", api.OK, largest()},
		{"without a truth", api.OK, untrue()},
		{"the zero value", api.ErrArg, shelf.Loft{}},
		{"Last 5", api.OK, long(make([]shelf.Range, 6)...)},
		{"Last 6", api.ErrLimit, long(make([]shelf.Range, 7)...)},
		{"Last 6, and else not valid", api.ErrLimit, shelf.Loft{Last: 6}},
		{"a huge Last", api.ErrLimit, shelf.Loft{Last: math.MaxInt}},
		{"Last -1", api.ErrArg, long()},
		{"the smallest Last", api.ErrArg, shelf.Loft{Last: math.MinInt, Air: ranges(0, 0)}},
		{"a day without Air", api.ErrArg, shelf.Loft{Last: 2, Air: ranges(0, 0, 0, 0)}},
		{"Air without a day", api.ErrArg, shelf.Loft{Last: 0, Air: ranges(0, 0, 0, 0)}},
		{"3 shelves", api.OK, changed(empty(), func(l *shelf.Loft) { l.Shelves = make([]shelf.Board, 3) })},
		{"4 shelves", api.ErrLimit, changed(empty(), func(l *shelf.Loft) { l.Shelves = make([]shelf.Board, 4) })},
		{"4 shelves, and not valid", api.ErrLimit, changed(shelf.Loft{}, func(l *shelf.Loft) { l.Shelves = make([]shelf.Board, 4) })},
		{"5 cakes", api.OK, sized(1, 1, 1, 1, 1)},
		{"6 cakes", api.ErrLimit, changed(sized(1, 1, 1, 1, 1, 1), func(l *shelf.Loft) { l.Put[5] = 0 })},
		{"6 cakes, and not valid", api.ErrLimit, bad(sized(1, 1, 1, 1, 1, 1))},
		{"6 cakes, and too many truths", api.ErrLimit, sized(41, 41, 41, 41, 41, 41)},
		{"5 weights", api.OK, two(slices.Repeat([]shelf.Weight{weight(0, 0, 0, 0)}, 5)...)},
		{"6 weights", api.ErrLimit, two(slices.Repeat([]shelf.Weight{weight(0, 0, 0, 0)}, 6)...)},
		{"6 weights, and not valid", api.ErrLimit, bad(two(make([]shelf.Weight, 6)...))},
		{"a weight, and no cakes", api.ErrArg, with(empty(), weight(0, 0, 0, 0))},
		{"a bad shelf", api.ErrArg, bad(two())},
		{"no Put", api.ErrArg, put()},
		{"a Put too few", api.ErrArg, put(0)},
		{"a Put too many", api.ErrArg, put(0, 1, 1)},
		{"many Put", api.ErrArg, put(make([]int, 999)...)},
		{"both on one shelf", api.OK, put(0, 0)},
		{"both on the other shelf", api.OK, put(1, 1)},
		{"both on a shelf for one", api.ErrArg, changed(two(), func(l *shelf.Loft) { l.Put[1] = 0 })},
		{"a cake on a shelf for none", api.ErrArg, changed(two(), func(l *shelf.Loft) { l.Shelves[0].Room = 0 })},
		{"the last cake on a shelf for none", api.ErrArg, changed(two(), func(l *shelf.Loft) { l.Shelves[1].Room = 0 })},
		{"no cake on a shelf for none", api.OK, changed(put(1, 1), func(l *shelf.Loft) { l.Shelves[0].Room = 0 })},
		{"a cake on no shelf", api.ErrArg, changed(sized(1), func(l *shelf.Loft) { l.Shelves = nil })},
		{"a Put, and no cakes", api.ErrArg, changed(sized(), func(l *shelf.Loft) { l.Put = list(0) })},
		{"no cakes", api.OK, sized()},
		{"2000 truths of two cakes and a day", api.OK, aired(sized(20, 10), to(0, 9))},
		{"2001 truths", api.ErrLimit, aired(sized(23, 29), to(7, 9))},
		{"2002 truths", api.ErrLimit, aired(sized(13, 22), to(1, 7))},
		{"2000 truths of three cakes", api.OK, sized(40, 5, 10)},
		{"2009 truths of three cakes", api.ErrLimit, sized(41, 7, 7)},
		{"2000 truths of five cakes", api.OK, sized(5, 5, 5, 4, 4)},
		{"2025 truths of five cakes", api.ErrLimit, sized(5, 3, 3, 5, 9)},
		{"2000 truths of four days", api.OK, long(ranges(0, 9, 0, 1, 0, 9, 0, 9)...)},
		{"2016 truths of four days", api.ErrLimit, long(ranges(2, 5, 3, 9, 0, 7, 1, 9)...)},
		{"2001 truths, and a bad shelf", api.ErrArg, bad(aired(sized(23, 29), to(7, 9)))},
		{"2001 truths, and a bad weight", api.ErrArg, with(aired(sized(23, 29), to(7, 9)), weight(2, 0, 0, 0))},
		{"2001 truths, and a bad Put", api.ErrArg, changed(aired(sized(23, 29), to(7, 9)), func(l *shelf.Loft) { l.Shelves[0].Room = 1 })},
		{"all truths of the largest ranges", api.ErrLimit, aired(sized(41, 41, 41, 41, 41), ranges(0, 9, 0, 9, 0, 9, 0, 9, 0, 9, 0, 9)...)},
	} {
		if e := shelf.CheckLoft(x.l); e != x.want {
			t.Errorf("%s: %v", x.name, e)
		}
	}
}

// P6.1: TestCheckNumbers changes one number of a loft at a time, to both sides of its limits.
func TestCheckNumbers(t *testing.T) {
	for _, x := range []struct {
		name      string
		low, high int // what is valid
		set       func(l *shelf.Loft, n int)
	}{
		{"Room", 1, 5, func(l *shelf.Loft, n int) { l.Shelves[0].Room = n }}, // a cake is on it
		{"Room of the last shelf", 0, 5, func(l *shelf.Loft, n int) {
			l.Shelves = append(l.Shelves, board(n, 0))
		}},
		{"Draft", 0, 4, func(l *shelf.Loft, n int) { l.Shelves[0].Draft = n }},
		{"Draft of the last shelf", 0, 4, func(l *shelf.Loft, n int) { l.Shelves[1].Draft = n }},
		{"Come", 0, 2, func(l *shelf.Loft, n int) { l.Cakes[0].Come = n }}, // the weight 0 is after the day 2
		{"Come of the last cake", 0, 3, func(l *shelf.Loft, n int) { l.Cakes[1].Come = n }},
		{"Keep", 1, 6, func(l *shelf.Loft, n int) { l.Cakes[0].Keep = n }},
		{"Keep of the last cake", 1, 6, func(l *shelf.Loft, n int) { l.Cakes[1].Keep = n }},
		{"Put", 0, 1, func(l *shelf.Loft, n int) { l.Put[0] = n }},
		{"Put of the last cake", 1, 1, func(l *shelf.Loft, n int) { l.Put[1] = n }}, // the shelf 0 is full
		{"Cake of a weight", 0, 1, func(l *shelf.Loft, n int) { l.Weights[0].Cake = n }},
		{"Cake of the last weight", 0, 1, func(l *shelf.Loft, n int) { l.Weights[1].Cake = n }},
		{"Day of a weight", 0, 3, func(l *shelf.Loft, n int) { l.Weights[0].Day = n }},
		{"Day of the last weight", 1, 3, func(l *shelf.Loft, n int) { l.Weights[1].Cake, l.Weights[1].Day = 1, n }}, // the cake comes on the day 1
		{"how many Air", 4, 4, func(l *shelf.Loft, n int) { l.Air = make([]shelf.Range, min(max(0, n), 20)) }},
		{"how many Put", 2, 2, func(l *shelf.Loft, n int) {
			l.Shelves[0].Room, l.Put = 5, make([]int, min(max(0, n), 20))
		}},
		{"Last", 3, 3, func(l *shelf.Loft, n int) { l.Last = min(n, api.MaxShelfLast) }}, // there are four Air
	} {
		for _, n := range list(x.low, x.high, x.low-1, x.high+1, (x.low+x.high)/2, math.MinInt, math.MaxInt, -7, 77777) {
			l := two(weight(0, 2, 0, 0), weight(0, 3, 0, 0))
			x.set(&l, n)
			checks(t, x.name, l, x.low <= n && n <= x.high)
		}
	}
}

// P6.1: TestCheckRanges changes one range of a loft at a time.
func TestCheckRanges(t *testing.T) {
	all := ranges(0, 0, 9, 9, 0, 9, 8, 10, 10, 10, -1, 3, -2, -1, 4, 3, 1, 0, 9, 8, 0, 10, 40, 40, 0, 40, 39, 41, 41, 41, 40, 39, 0, 41,
		math.MinInt, math.MaxInt, math.MaxInt, math.MinInt, 0, math.MaxInt, math.MinInt, 0, math.MaxInt, math.MaxInt, math.MinInt, math.MinInt)
	for _, r := range all {
		isUpTo := func(most int) bool { return 0 <= r.Lo && r.Lo <= r.Hi && r.Hi <= most }
		for day := range 4 {
			checks(t, "Air", changed(untrue(), func(l *shelf.Loft) { l.Air[day] = r }), isUpTo(9))
		}
		for i := range 2 {
			checks(t, "Water", changed(untrue(), func(l *shelf.Loft) { l.Cakes[i].Water = r }), isUpTo(40))
			checks(t, "Water of a weight", changed(untrue(), func(l *shelf.Loft) { l.Weights[i].Water = r }), isUpTo(40))
		}
	}
}

func checks(t *testing.T, what string, l shelf.Loft, valid bool) {
	t.Helper()
	want := api.ErrArg
	if valid {
		want = api.OK
	}
	if e := shelf.CheckLoft(l); e != want {
		t.Errorf("%s: CheckLoft of %v: %v", what, l, e)
	}
}

// P6.1
func TestExampleOfPlay(t *testing.T) {
	l, e := shelf.Play(two(), list(0, 1), truthOf(list(2, 1, 3, 3), list(7, 5)))
	if !equalLists(l, [][]int{{3, 0, 0, 0}, {4, 1, 0}}) || e != api.OK {
		t.Errorf("Play: %v, %v", l, e)
	}
	l, e = shelf.Play(two(), list(1, 0), truthOf(list(2, 1, 3, 3), list(7, 5))) // with another placement than Put
	if !equalLists(l, [][]int{{5, 4, 1, 0}, {2, 0, 0}}) || e != api.OK {
		t.Errorf("Play: %v, %v", l, e)
	}
	if l, e = shelf.Play(empty(), nil, truthOf(list(1), nil)); len(l) > 0 || e != api.OK {
		t.Errorf("Play without cakes: %v, %v", l, e)
	}
}

// P6.1, P6.2, P6.3: what is just enough, and one less or more.
func TestEdgesOfWater(t *testing.T) {
	for _, x := range []struct {
		name               string
		come, last         int
		air, draft, water  int // air is the same on each day
		left               []int
		keep, day          int
		isDry, isDryInTime bool
	}{
		{"just what the air takes", 0, 0, 5, 0, 5, list(0), 1, 0, true, true},
		{"one more than the air takes", 0, 0, 5, 0, 6, list(1), 1, 0, false, false},
		{"one less than the air takes", 0, 0, 5, 0, 4, list(0), 1, 0, true, true},
		{"just what air and draft take", 0, 0, 5, 3, 8, list(0), 1, 0, true, true},
		{"one more than air and draft take", 0, 0, 5, 3, 9, list(1), 1, 0, false, false},
		{"the draft alone", 0, 2, 0, 4, 9, list(5, 1, 0), 3, 2, true, true},
		{"the draft alone, a day too late", 0, 2, 0, 4, 9, list(5, 1, 0), 2, 2, true, false},
		{"the draft alone, a day too early", 0, 1, 0, 4, 9, list(5, 1), 6, 0, false, false},
		{"no water", 0, 2, 0, 0, 0, list(0, 0, 0), 1, 0, true, true},
		{"no water, and late", 2, 3, 0, 0, 0, list(0, 0), 1, 2, true, true},
		{"nothing takes water", 0, 2, 0, 0, 1, list(1, 1, 1), 6, 0, false, false},
		{"on the last day", 3, 3, 9, 4, 13, list(0), 1, 3, true, true},
		{"not on the last day", 3, 3, 9, 4, 14, list(1), 6, 0, false, false},
		{"on the second day of two", 1, 4, 3, 1, 8, list(4, 0, 0, 0), 2, 2, true, true},
		{"on the second day of one", 1, 4, 3, 1, 8, list(4, 0, 0, 0), 1, 2, true, false},
		{"the most water", 0, 5, 9, 4, 40, list(27, 14, 1, 0, 0, 0), 4, 3, true, true},
		{"the most days", 0, 5, 0, 4, 24, list(20, 16, 12, 8, 4, 0), 6, 5, true, true},
		{"a day less than the most", 0, 5, 0, 4, 24, list(20, 16, 12, 8, 4, 0), 5, 5, true, false},
	} {
		l := shelf.Loft{Last: x.last, Air: slices.Repeat(ranges(x.air, x.air), x.last+1), Shelves: []shelf.Board{board(1, x.draft)}, Cakes: []shelf.Cake{cake(x.come, x.water, x.water, x.keep)}, Put: list(0)}
		left, e := shelf.Play(l, list(0), truthOf(slices.Repeat(list(x.air), x.last+1), list(x.water)))
		if !equalLists(left, [][]int{x.left}) || e != api.OK {
			t.Errorf("%s: Play is %v, %v", x.name, left, e)
		}
		day, e := shelf.Day(l, list(0), 0)
		if x.isDry != (e == api.OK) || day != x.day || !x.isDry && e != api.ErrShort {
			t.Errorf("%s: Day is %d, %v", x.name, day, e)
		}
		for i, n := range x.left {
			want := never
			if n == 0 {
				want = always
			}
			if v, e := shelf.Dry(l, list(0), 0, x.come+i); v != want || e != api.OK {
				t.Errorf("%s: Dry after %d is %d, %v", x.name, x.come+i, v, e)
			}
		}
		if n, e := shelf.Stuck(l, list(0)); n != 0 || x.isDryInTime != (e == api.ErrNone) || !x.isDryInTime && e != api.OK {
			t.Errorf("%s: Stuck is %d, %v", x.name, n, e)
		}
		place, done, e := shelf.Best(l)
		if x.isDryInTime != (e == api.OK) || x.isDryInTime && (!slices.Equal(place, list(0)) || done != x.day) || !x.isDryInTime && e != api.ErrShort {
			t.Errorf("%s: Best is %v, %d, %v", x.name, place, done, e)
		}
	}
}

// P6.1
func TestTruths(t *testing.T) {
	dry := weight(1, 2, 0, 0)
	air, water := list(2, 1, 4, 3), list(7, 5)
	for _, x := range []struct {
		name  string
		l     shelf.Loft
		t     shelf.Truth
		truth bool
		e     api.Errno
	}{
		{"the example", two(), truthOf(list(2, 1, 3, 3), water), true, api.OK},
		{"the lowest numbers", two(), truthOf(list(2, 1, 2, 3), list(6, 5)), true, api.OK},
		{"the highest numbers", two(), truthOf(list(3, 1, 4, 3), list(7, 5)), true, api.OK},
		{"a weight that is right", two(dry), truthOf(air, water), true, api.OK},
		{"a weight that is false", two(dry), truthOf(list(2, 1, 3, 3), water), false, api.OK},
		{"a weight that is right with another placement alone", changed(two(weight(1, 1, 2, 2)), func(l *shelf.Loft) { l.Shelves[0].Room = 2 }), truthOf(air, water), false, api.OK},
		{"a weight that is right on the shelf of Put", changed(two(weight(1, 1, 2, 2)), func(l *shelf.Loft) { l.Shelves[0].Room, l.Put[1] = 2, 0 }), truthOf(air, water), true, api.OK},
		{"just the least weight", two(weight(0, 0, 3, 9)), truthOf(air, water), true, api.OK},
		{"just the greatest weight", two(weight(0, 0, 0, 3)), truthOf(air, water), true, api.OK},
		{"less than the weight", two(weight(0, 0, 4, 9)), truthOf(air, water), false, api.OK},
		{"more than the weight", two(weight(0, 0, 0, 2)), truthOf(air, water), false, api.OK},
		{"the last one of weights is false", two(dry, weight(0, 0, 3, 3), weight(0, 3, 1, 1)), truthOf(air, water), false, api.OK},
		{"the first one of weights is false", two(weight(0, 3, 1, 1), dry, weight(0, 0, 3, 3)), truthOf(air, water), false, api.OK},
		{"without a truth", untrue(), truthOf(air, water), false, api.OK},
		{"no cakes", empty(), truthOf(list(1), list()), true, api.OK},
		{"the largest loft", changed(largest(), func(l *shelf.Loft) { l.Weights = nil }), truthOf(list(9, 9, 3, 9, 0, 9), list(40, 9, 18, 30, 0)), true, api.OK},
		{"too little air", two(), truthOf(list(1, 1, 3, 3), water), false, api.ErrRange},
		{"too much air", two(), truthOf(list(4, 1, 3, 3), water), false, api.ErrRange},
		{"too little air on the last day", two(), truthOf(list(2, 1, 3, 2), water), false, api.ErrRange},
		{"too much air on the last day", two(), truthOf(list(2, 1, 3, 4), water), false, api.ErrRange},
		{"too little water", two(), truthOf(air, list(5, 5)), false, api.ErrRange},
		{"too much water", two(), truthOf(air, list(8, 5)), false, api.ErrRange},
		{"too little water in the last cake", two(), truthOf(air, list(7, 4)), false, api.ErrRange},
		{"too much water in the last cake", two(), truthOf(air, list(7, 6)), false, api.ErrRange},
		{"a day too few", two(), truthOf(list(2, 1, 3), water), false, api.ErrRange},
		{"a day too many", two(), truthOf(append(slices.Clone(air), 0), water), false, api.ErrRange},
		{"many days too many", two(), truthOf(append(slices.Clone(air), make([]int, 99)...), water), false, api.ErrRange},
		{"a cake too few", two(), truthOf(air, list(7)), false, api.ErrRange},
		{"a cake too many", two(), truthOf(air, append(slices.Clone(water), 0)), false, api.ErrRange},
		{"many cakes too many", two(), truthOf(air, append(slices.Clone(water), make([]int, 99)...)), false, api.ErrRange},
		{"a cake too few, where 0 is in its range", largest(), truthOf(list(9, 9, 3, 9, 0, 9), list(40, 9, 18, 30)), false, api.ErrRange},
		{"the zero value", two(), shelf.Truth{}, false, api.ErrRange},
		{"a cake for no cakes", empty(), truthOf(list(1), list(0)), false, api.ErrRange},
		{"huge", two(), truthOf(list(math.MinInt, 1, math.MaxInt, 3), list(7, math.MinInt)), false, api.ErrRange},
		{"no truth, and without a truth", untrue(), shelf.Truth{}, false, api.ErrRange},
		{"not valid", two(weight(2, 0, 0, 0)), truthOf(air, water), false, api.ErrArg},
		{"not valid, and no truth", shelf.Loft{}, shelf.Truth{}, false, api.ErrArg},
		{"too many weights", two(make([]shelf.Weight, 6)...), truthOf(air, water), false, api.ErrLimit},
	} {
		left, e := shelf.Play(x.l, x.l.Put, x.t)
		if e != x.e || e == api.OK && len(left) != len(x.l.Cakes) || e != api.OK && left != nil {
			t.Errorf("%s: Play is %v, %v", x.name, left, e)
		}
		if shelf.ProveTruth(x.l, x.t) != x.truth {
			t.Errorf("%s: ProveTruth is %v", x.name, !x.truth)
		}
	}
}

// P6.1 to P6.4
func TestPlacements(t *testing.T) {
	truth := truthOf(list(2, 1, 4, 3), list(7, 5))
	for _, x := range []struct {
		name  string
		l     shelf.Loft
		place []int
		want  api.Errno // of all calls, if the list is no placement
	}{
		{"as in Put", two(), list(0, 1), api.OK},
		{"the other way", two(), list(1, 0), api.OK},
		{"both on the shelf for two", two(), list(1, 1), api.OK},
		{"both on the shelf for one", two(), list(0, 0), api.ErrRange},
		{"no list", two(), nil, api.ErrRange},
		{"a cake too few", two(), list(0), api.ErrRange},
		{"a cake too many", two(), list(1, 0, 1), api.ErrRange},
		{"many cakes", two(), slices.Repeat(list(1), 999), api.ErrRange},
		{"the shelf -1", two(), list(-1, 1), api.ErrRange},
		{"the shelf 2", two(), list(0, 2), api.ErrRange},
		{"huge shelves", two(), list(math.MaxInt, math.MinInt), api.ErrRange},
		{"a shelf for none", changed(put(1, 1), func(l *shelf.Loft) { l.Shelves[0].Room = 0 }), list(0, 1), api.ErrRange},
		{"beside a shelf for none", changed(put(1, 1), func(l *shelf.Loft) { l.Shelves[0].Room = 0 }), list(1, 1), api.OK},
		{"no placement, without a truth", untrue(), list(0, 0), api.ErrRange},
		{"without a truth", untrue(), list(0, 1), api.OK},
		{"not valid", two(weight(2, 0, 0, 0)), list(0, 1), api.ErrArg},
		{"not valid, and no placement", two(weight(2, 0, 0, 0)), list(0, 0), api.ErrArg},
		{"too many weights, and no placement", two(make([]shelf.Weight, 6)...), list(0, 0), api.ErrLimit},
	} {
		left, d := shelf.Play(x.l, x.place, truth)
		bounds, e := shelf.Left(x.l, x.place, 0)
		v, f := shelf.Dry(x.l, x.place, 0, 0)
		day, g := shelf.Day(x.l, x.place, 0)
		n, h := shelf.Stuck(x.l, x.place)
		for _, got := range []api.Errno{d, e, f, g, h} {
			if x.want != api.OK && got != x.want || x.want == api.OK && (got == api.ErrRange || got == api.ErrArg || got == api.ErrLimit) {
				t.Errorf("%s: %v", x.name, got)
			}
		}
		if x.want != api.OK && (left != nil || bounds != nil || v != 0 || day != 0 || n != 0 || shelf.ProvePlace(x.l, x.place, 99)) {
			t.Errorf("%s: %v, %v, %d, %d, %d, or ProvePlace", x.name, left, bounds, v, day, n)
		}
	}
	if l, e := shelf.Play(empty(), list(0), truthOf(list(1), nil)); l != nil || e != api.ErrRange {
		t.Errorf("a shelf, and no cakes: %v, %v", l, e)
	}
	if _, e := shelf.Stuck(empty(), list(0)); e != api.ErrRange || shelf.ProvePlace(empty(), list(0), 0) {
		t.Errorf("a shelf, and no cakes: %v, or ProvePlace", e)
	}
}

// P6.1
func TestPlayOfAllTruths(t *testing.T) {
	for _, l := range append(lofts(), two(), untrue()) {
		for i, place := range allLists(l) {
			if len(l.Cakes) > 3 && i%5 > 0 { // some of the many
				continue
			}
			for _, x := range allTruths(l) {
				left, e := shelf.Play(l, place, x)
				if !hasRoom(l, place) {
					if left != nil || e != api.ErrRange {
						t.Fatalf("Play of %v, %v, %v: %v, %v", l, place, x, left, e)
					}
					continue
				}
				if !equalLists(left, wantPlay(l, place, x)) || e != api.OK {
					t.Fatalf("Play of %v, %v, %v: %v, %v", l, place, x, left, e)
				}
			}
		}
	}
}

// P6.1
func TestProveAllTruths(t *testing.T) {
	for _, l := range append(lofts(), two(), two(weight(1, 2, 0, 0)), untrue()) {
		for _, x := range allTruths(l) {
			if want := len(wrongIn(l, x)) == 0; shelf.ProveTruth(l, x) != want {
				t.Errorf("ProveTruth of %v, %v is not %v", l, x, want)
			}
		}
	}
}

// P6.2
func TestExamplesOfLeft(t *testing.T) {
	if n := len(truthsOf(two())); n != 12 {
		t.Fatalf("the loft of the examples has %d truths", n)
	}
	for _, x := range []struct {
		l     shelf.Loft
		place []int
		of    int
		want  []shelf.Range
		e     api.Errno
	}{
		{two(), list(0, 1), 0, ranges(1, 3, 0, 0, 0, 0, 0, 0), api.OK}, {two(), list(0, 1), 1, ranges(4, 4, 0, 2, 0, 0), api.OK},
		{two(), list(1, 0), 0, ranges(3, 5, 2, 4, 0, 2, 0, 0), api.OK}, {two(), list(1, 0), 1, ranges(2, 2, 0, 0, 0, 0), api.OK},
		{two(weight(1, 2, 0, 0)), list(0, 1), 1, ranges(4, 4, 0, 0, 0, 0), api.OK}, {two(weight(1, 2, 2, 2)), list(1, 1), 0, ranges(3, 5, 2, 4, 0, 2, 0, 0), api.OK}, // the day 2 has little air then
		{two(weight(0, 0, 1, 1)), list(1, 1), 0, ranges(3, 3, 2, 2, 0, 0, 0, 0), api.OK}, // it was weighed on another shelf
		{two(), list(0, 1), 2, nil, api.ErrRange}, {two(), list(0, 1), -1, nil, api.ErrRange}, {empty(), nil, 0, nil, api.ErrRange}, {sized(1), list(0), 1, nil, api.ErrRange},
		{two(), list(0, 1), math.MaxInt, nil, api.ErrRange}, {two(), list(0, 1), math.MinInt, nil, api.ErrRange},
		{untrue(), list(0, 1), 2, nil, api.ErrRange}, {untrue(), list(0, 1), 0, nil, api.ErrFalse}, {untrue(), list(1, 1), 1, nil, api.ErrFalse},
		{shelf.Loft{}, list(0), 9, nil, api.ErrArg}, {shelf.Loft{Last: 6}, list(0), 9, nil, api.ErrLimit},
	} {
		if l, e := shelf.Left(x.l, x.place, x.of); !slices.Equal(l, x.want) || e != x.e {
			t.Errorf("Left of %v, %v, %d: %v, %v", x.l, x.place, x.of, l, e)
		}
	}
}

// P6.2
func TestExamplesOfDry(t *testing.T) {
	for _, x := range []struct {
		l             shelf.Loft
		place         []int
		of, day, want int
		e             api.Errno
	}{
		{two(), list(0, 1), 1, 1, never, api.OK}, {two(), list(0, 1), 1, 2, perhaps, api.OK}, {two(), list(0, 1), 1, 3, always, api.OK},
		{two(), list(0, 1), 0, 0, never, api.OK}, {two(), list(0, 1), 0, 1, always, api.OK}, {two(), list(0, 1), 0, 3, always, api.OK},
		{two(), list(1, 0), 0, 2, perhaps, api.OK}, {two(), list(1, 1), 0, 3, always, api.OK}, {two(), list(1, 0), 1, 1, never, api.OK}, {two(), list(1, 0), 1, 2, always, api.OK},
		{two(weight(1, 2, 0, 0)), list(0, 1), 1, 2, always, api.OK}, {two(weight(1, 2, 1, 9)), list(0, 1), 1, 2, never, api.OK},
		{two(), list(0, 1), 0, -1, 0, api.ErrRange}, {two(), list(0, 1), 0, 4, 0, api.ErrRange}, {two(), list(0, 1), 1, 0, 0, api.ErrRange}, {two(), list(0, 1), 1, 4, 0, api.ErrRange},
		{two(), list(0, 1), 2, 1, 0, api.ErrRange}, {two(), list(0, 1), -1, 1, 0, api.ErrRange}, {empty(), nil, 0, 0, 0, api.ErrRange},
		{two(), list(0, 1), 0, math.MaxInt, 0, api.ErrRange}, {two(), list(0, 1), 0, math.MinInt, 0, api.ErrRange}, {two(), list(0, 1), math.MaxInt, 0, 0, api.ErrRange}, {two(), list(0, 1), math.MinInt, 0, 0, api.ErrRange},
		{untrue(), list(0, 1), 1, 0, 0, api.ErrRange}, {untrue(), list(0, 1), 1, 4, 0, api.ErrRange}, {untrue(), list(0, 1), 2, 1, 0, api.ErrRange}, {untrue(), list(0, 1), 1, 1, 0, api.ErrFalse},
		{shelf.Loft{}, list(0), 9, 9, 0, api.ErrArg}, {shelf.Loft{Last: 6}, list(0), 9, 9, 0, api.ErrLimit},
	} {
		if n, e := shelf.Dry(x.l, x.place, x.of, x.day); n != x.want || e != x.e {
			t.Errorf("Dry of %v, %v, %d, %d: %d, %v", x.l, x.place, x.of, x.day, n, e)
		}
	}
}

// P6.3
func TestExamplesOfDayAndStuck(t *testing.T) {
	wet := changed(two(), func(l *shelf.Loft) { l.Cakes[1].Water.Hi = 7 })
	for _, x := range []struct {
		name  string
		l     shelf.Loft
		place []int
		days  []int // of all cakes; none for ErrShort
		stuck int
		e     api.Errno
	}{
		{"the example", two(), list(0, 1), list(1, 3), 0, api.ErrNone},
		{"the other way", two(), list(1, 0), list(3, 2), 0, api.OK},
		{"both on one shelf", two(), list(1, 1), list(3, 3), 0, api.OK},
		{"the other way, kept longer", changed(two(), func(l *shelf.Loft) { l.Cakes[0].Keep = 4 }), list(1, 0), list(3, 2), 0, api.ErrNone},
		{"the last cake kept just as long", changed(two(), func(l *shelf.Loft) { l.Cakes[1].Keep = 2 }), list(1, 0), list(3, 2), 0, api.OK},
		{"the last cake not kept as long", changed(two(), func(l *shelf.Loft) { l.Cakes[1].Keep = 2 }), list(0, 1), list(1, 3), 1, api.OK},
		{"with a weight", two(weight(1, 2, 0, 0)), list(0, 1), list(1, 2), 0, api.ErrNone},
		{"with more water than is taken", changed(wet, func(l *shelf.Loft) { l.Cakes[1].Water = to(9, 9) }), list(0, 1), list(1, none), 1, api.OK},
		{"with more water than is perhaps taken", wet, list(0, 1), list(1, none), 1, api.OK},
		{"with more water, in the draft", wet, list(1, 0), list(3, 2), 0, api.OK},
		{"no cakes", empty(), nil, nil, 0, api.ErrNone},
	} {
		for i, want := range x.days {
			n, e := shelf.Day(x.l, x.place, i)
			if want == none && (n != 0 || e != api.ErrShort) || want != none && (n != want || e != api.OK) {
				t.Errorf("%s: Day of %d: %d, %v", x.name, i, n, e)
			}
		}
		if n, e := shelf.Stuck(x.l, x.place); n != x.stuck || e != x.e {
			t.Errorf("%s: Stuck: %d, %v", x.name, n, e)
		}
	}
	for _, x := range []struct {
		l  shelf.Loft
		of int
		e  api.Errno
	}{
		{two(), 2, api.ErrRange}, {two(), -1, api.ErrRange}, {wet, 2, api.ErrRange}, {two(), math.MaxInt, api.ErrRange}, {two(), math.MinInt, api.ErrRange},
		{untrue(), 2, api.ErrRange}, {untrue(), -1, api.ErrRange}, {untrue(), 0, api.ErrFalse}, {with(wet, weight(0, 0, 0, 0)), 1, api.ErrFalse}, {two(weight(2, 0, 0, 0)), 9, api.ErrArg}, {shelf.Loft{Last: 6}, 0, api.ErrLimit},
	} {
		if n, e := shelf.Day(x.l, x.l.Put, x.of); n != 0 || e != x.e {
			t.Errorf("Day of %v, %d: %d, %v", x.l, x.of, n, e)
		}
	}
	for _, x := range []struct {
		l shelf.Loft
		e api.Errno
	}{{untrue(), api.ErrFalse}, {with(wet, weight(0, 0, 0, 0)), api.ErrFalse}, {shelf.Loft{}, api.ErrArg}, {shelf.Loft{Last: 6}, api.ErrLimit}} {
		if n, e := shelf.Stuck(x.l, x.l.Put); n != 0 || e != x.e {
			t.Errorf("Stuck of %v: %d, %v", x.l, n, e)
		}
	}
}

// P6.2, P6.3
func TestLeftDryDayAndStuck(t *testing.T) {
	said, dry, wet, stuck := map[int]int{}, 0, 0, 0
	for _, l := range append(lofts(), two(), untrue()) {
		truths := truthsOf(l)
		for k, place := range allPlaces(l) {
			if len(l.Cakes) > 3 && k%7 > 0 { // some of the many
				continue
			}
			if len(truths) == 0 {
				isUntrue(t, l, place)
				continue
			}
			sure := sureDays(l, truths)
			for i, on := range place {
				if left, e := shelf.Left(l, place, i); !slices.Equal(left, wantLeft(l, truths, i, on)) || e != api.OK {
					t.Errorf("Left of %v, %v, %d: %v, %v", l, place, i, left, e)
				}
				for _, day := range daysOf(l, i) {
					n, e := shelf.Dry(l, place, i, day)
					said[n]++
					if n != wantDry(l, truths, i, on, day) || e != api.OK {
						t.Errorf("Dry of %v, %v, %d, %d: %d, %v", l, place, i, day, n, e)
					}
				}
				n, e := shelf.Day(l, place, i)
				switch want := sure[i][on]; {
				case want == none:
					wet++
					if n != 0 || e != api.ErrShort {
						t.Errorf("Day of %v, %v, %d: %d, %v", l, place, i, n, e)
					}
				default:
					dry++
					if n != want || e != api.OK {
						t.Errorf("Day of %v, %v, %d: %d, %v, not %d", l, place, i, n, e, want)
					}
				}
			}
			want, is := wantStuck(l, sure, place)
			if n, e := shelf.Stuck(l, place); n != want || is != (e == api.OK) || !is && e != api.ErrNone {
				t.Errorf("Stuck of %v, %v: %d, %v, not %d", l, place, n, e, want)
			}
			if want > 0 {
				stuck++
			}
		}
	}
	for v := always; v <= perhaps; v++ {
		if said[v] < 200 {
			t.Errorf("the verdict %d comes only %d times: the lofts say too little", v, said[v])
		}
	}
	if dry < 200 || wet < 200 || stuck < 50 {
		t.Errorf("%d cakes have a sure day, %d have none, and %d later ones get mouldy first: the lofts say too little", dry, wet, stuck)
	}
}

// isUntrue checks the calls that name a placement of a loft without a truth.
func isUntrue(t *testing.T, l shelf.Loft, place []int) {
	t.Helper()
	if n, e := shelf.Stuck(l, place); n != 0 || e != api.ErrFalse || shelf.ProvePlace(l, place, 9) {
		t.Errorf("Stuck of %v, %v: %d, %v, or ProvePlace", l, place, n, e)
	}
	for i, c := range l.Cakes {
		left, e := shelf.Left(l, place, i)
		v, f := shelf.Dry(l, place, i, c.Come)
		day, g := shelf.Day(l, place, i)
		if len(left) > 0 || e != api.ErrFalse || v != 0 || f != api.ErrFalse || day != 0 || g != api.ErrFalse {
			t.Errorf("Left, Dry, Day of %v, %v, %d: %v, %v; %d, %v; %d, %v", l, place, i, left, e, v, f, day, g)
		}
	}
}

// P6.4, P6.5
func TestExamplesOfBestAndBy(t *testing.T) {
	alike := shelf.Loft{Last: 1, Air: ranges(1, 1, 1, 1), Shelves: []shelf.Board{board(1, 1), board(1, 1), board(1, 1)}, Cakes: []shelf.Cake{cake(0, 2, 2, 1), cake(0, 2, 2, 1)}, Put: list(2, 1)}
	calm := changed(alike, func(l *shelf.Loft) { l.Shelves[0].Draft, l.Cakes[0].Keep, l.Cakes[1].Keep = 0, 2, 2 })
	for _, x := range []struct {
		name  string
		l     shelf.Loft
		place []int
		done  int
		e     api.Errno
	}{
		{"the example", two(), list(0, 1), 3, api.OK},
		{"with Room 2 of the shelf 0", changed(two(), func(l *shelf.Loft) { l.Shelves[0].Room = 2 }), list(0, 0), 2, api.OK},
		{"with Room 0 of the shelf 0", changed(put(1, 1), func(l *shelf.Loft) { l.Shelves[0].Room = 0 }), nil, 0, api.ErrShort},
		{"with a weight", two(weight(1, 2, 0, 0)), list(0, 1), 2, api.OK},
		{"with a cake that gets mouldy", changed(two(), func(l *shelf.Loft) { l.Cakes[1].Keep = 2 }), nil, 0, api.ErrShort},
		{"with a cake that is kept long", changed(two(), func(l *shelf.Loft) { l.Cakes[0].Keep, l.Cakes[1].Keep = 4, 2 }), list(1, 0), 3, api.OK},
		{"shelves that are alike", alike, list(0, 1), 0, api.OK},
		{"a first shelf that is calm", calm, list(1, 2), 0, api.OK},
		{"a last shelf that is calm", changed(calm, func(l *shelf.Loft) { l.Shelves[0].Draft, l.Shelves[2].Draft = 1, 0 }), list(0, 1), 0, api.OK},
		{"a shelf with more draft, of no use", changed(alike, func(l *shelf.Loft) { l.Shelves[2].Draft = 4 }), list(0, 1), 0, api.OK},
		{"two calm shelves", changed(calm, func(l *shelf.Loft) { l.Shelves[1].Draft = 0 }), list(0, 1), 1, api.OK},
		{"Put is full, and not good", changed(two(), func(l *shelf.Loft) { l.Put = list(1, 0) }), list(0, 1), 3, api.OK},
		{"dry from the beginning", changed(two(), func(l *shelf.Loft) { l.Cakes[0].Water, l.Cakes[1].Water = to(0, 0), to(0, 0) }), list(0, 1), 1, api.OK},
		{"no cakes", empty(), nil, 0, api.OK},
		{"no cakes, and shelves", changed(sized(), func(l *shelf.Loft) { l.Last, l.Air = 5, make([]shelf.Range, 6) }), nil, 0, api.OK},
		{"without a truth", untrue(), nil, 0, api.ErrFalse},
		{"not valid", shelf.Loft{}, nil, 0, api.ErrArg},
		{"too long", shelf.Loft{Last: 6}, nil, 0, api.ErrLimit},
	} {
		place, done, e := shelf.Best(x.l)
		if !slices.Equal(place, x.place) || done != x.done || e != x.e {
			t.Errorf("%s: %v, %d, %v", x.name, place, done, e)
		}
		if shelf.ProvePlace(x.l, place, done) != (e == api.OK) || shelf.ProvePlace(x.l, place, done-1) {
			t.Errorf("%s: ProvePlace", x.name)
		}
		if e != api.OK {
			continue
		}
		if l, e := shelf.By(x.l, done); !slices.Equal(l, x.place) || e != api.OK {
			t.Errorf("%s: By of %d: %v, %v", x.name, done, l, e)
		}
		want := api.ErrShort
		if done == 0 {
			want = api.ErrRange
		}
		if l, e := shelf.By(x.l, done-1); l != nil || e != want {
			t.Errorf("%s: By of %d: %v, %v", x.name, done-1, l, e)
		}
	}
	for _, x := range []struct {
		l    shelf.Loft
		day  int
		want []int
		e    api.Errno
	}{
		{two(), 2, nil, api.ErrShort}, {two(), 3, list(0, 1), api.OK}, {two(), 0, nil, api.ErrShort}, {two(), -1, nil, api.ErrRange}, {two(), 4, nil, api.ErrRange},
		{two(), math.MaxInt, nil, api.ErrRange}, {two(), math.MinInt, nil, api.ErrRange},
		{calm, 0, list(1, 2), api.OK}, {calm, 1, list(0, 1), api.OK}, // that which is first, not that which is done earliest
		{calm, 2, nil, api.ErrRange}, {empty(), 0, nil, api.OK}, {empty(), 1, nil, api.ErrRange}, {empty(), -1, nil, api.ErrRange},
		{put(1, 1), 2, list(0, 0), api.OK}, {put(1, 1), 3, list(0, 0), api.OK},
		{untrue(), 4, nil, api.ErrRange}, {untrue(), -1, nil, api.ErrRange}, {untrue(), 3, nil, api.ErrFalse}, {shelf.Loft{}, -1, nil, api.ErrArg}, {shelf.Loft{Last: 6}, 9, nil, api.ErrLimit},
	} {
		if l, e := shelf.By(x.l, x.day); !slices.Equal(l, x.want) || e != x.e {
			t.Errorf("By of %v, %d: %v, %v", x.l, x.day, l, e)
		}
	}
}

// P6.4
func TestExamplesOfProvePlace(t *testing.T) {
	for _, x := range []struct {
		l     shelf.Loft
		place []int
		day   int
		want  bool
	}{
		{two(), list(0, 1), 3, true}, {two(), list(0, 1), 2, false}, {two(), list(0, 1), -1, false}, {two(), list(0, 1), 4, true}, {two(), list(0, 1), math.MaxInt, true}, {two(), list(0, 1), math.MinInt, false},
		{two(), list(1, 0), 3, false}, {two(), list(1, 1), 3, false}, {two(), list(0, 0), 3, false}, {two(), list(0), 3, false}, {two(), nil, 3, false},
		{put(1, 1), list(0, 0), 2, true}, {put(1, 1), list(0, 0), 1, false}, {put(1, 1), list(0, 1), 3, true}, {put(1, 1), list(0, 1), 2, false},
		{two(weight(1, 2, 0, 0)), list(0, 1), 2, true}, {two(weight(1, 2, 0, 0)), list(0, 1), 1, false},
		{empty(), nil, 0, true}, {empty(), nil, -1, false}, {empty(), nil, 5, true}, {empty(), nil, math.MinInt, false}, {empty(), list(0), 0, false},
		{untrue(), list(0, 1), 3, false}, {two(weight(2, 0, 0, 0)), list(0, 1), 3, false}, {two(make([]shelf.Weight, 6)...), list(0, 1), 3, false}, {shelf.Loft{}, nil, 0, false},
	} {
		if shelf.ProvePlace(x.l, x.place, x.day) != x.want {
			t.Errorf("ProvePlace of %v, %v, %d is not %v", x.l, x.place, x.day, x.want)
		}
	}
}

// P6.4, P6.5
func TestBestByAndProvePlace(t *testing.T) {
	best, short, later := 0, 0, 0
	for _, l := range append(lofts(), two(), put(1, 1)) {
		truths := truthsOf(l)
		if len(truths) == 0 {
			place, done, e := shelf.Best(l)
			by, f := shelf.By(l, 0)
			if place != nil || done != 0 || e != api.ErrFalse || by != nil || f != api.ErrFalse {
				t.Errorf("Best, By of %v: %v, %d, %v; %v, %v", l, place, done, e, by, f)
			}
			continue
		}
		want, day, ok := wantBest(l, truths)
		place, done, e := shelf.Best(l)
		if !slices.Equal(place, want) || done != day || ok != (e == api.OK) || !ok && e != api.ErrShort {
			t.Errorf("Best of %v: %v, %d, %v, not %v, %d", l, place, done, e, want, day)
		}
		for day := range l.Last + 1 {
			want, ok := wantBy(l, truths, day)
			first, e := shelf.By(l, day)
			if !slices.Equal(first, want) || ok != (e == api.OK) || !ok && e != api.ErrShort {
				t.Errorf("By of %v, %d: %v, %v, not %v", l, day, first, e, want)
			}
			if ok && !slices.Equal(first, place) {
				later++
			}
		}
		if ok {
			best++
		} else {
			short++
		}
		provesPlaces(t, l, sureDays(l, truths))
	}
	if best < 50 || short < 50 || later < 10 {
		t.Errorf("%d lofts have a good placement, %d none, and %d times a later one is first: the lofts say too little", best, short, later)
	}
}

// provesPlaces checks what is proved of all lists, by some days.
func provesPlaces(t *testing.T, l shelf.Loft, sure onShelves) {
	t.Helper()
	for i, place := range allLists(l) {
		if len(l.Cakes) > 3 && i%7 > 0 { // some of the many
			continue
		}
		isGood := hasRoom(l, place)
		if isGood {
			_, stuck := wantStuck(l, sure, place)
			isGood = !stuck
		}
		done := doneAfter(sure, place)
		for _, day := range list(done, done-1, l.Last, 77) {
			if shelf.ProvePlace(l, place, day) != (isGood && day >= done) {
				t.Errorf("ProvePlace of %v, %v, %d: the list is good: %v, and done after %d", l, place, day, isGood, done)
			}
		}
	}
}

// P6.6
func TestExamplesOfFirstAndLeave(t *testing.T) {
	dry, wet, light := weight(1, 2, 0, 0), weight(1, 2, 1, 9), weight(0, 0, 0, 0)
	for _, x := range []struct {
		l     shelf.Loft
		first int
		e     api.Errno
		leave []int
	}{
		{empty(), 0, api.ErrNone, nil}, {two(), 0, api.ErrNone, nil}, {two(dry), 0, api.ErrNone, nil}, {two(wet), 0, api.ErrNone, nil},
		{untrue(), 1, api.OK, list(1)},
		{two(light), 0, api.OK, list(0)},
		{two(light, dry), 0, api.OK, list(0)},
		{two(dry, wet), 1, api.OK, list(0)},
		{two(wet, dry), 1, api.OK, list(0)},
		{two(dry, dry, wet), 2, api.OK, list(2)},
		{two(wet, dry, dry), 1, api.OK, list(0)},
		{two(dry, wet, dry), 1, api.OK, list(1)},
		{two(dry, wet, light), 1, api.OK, list(0, 2)},
		{two(dry, wet, wet, dry), 1, api.OK, list(0, 3)},
		{two(dry, light, wet, light, dry), 1, api.OK, list(1, 2, 3)},
		{two(light, light, light, light, light), 0, api.OK, list(0, 1, 2, 3, 4)},
		{two(dry, dry, dry, dry, wet), 4, api.OK, list(4)},
		{changed(two(weight(0, 0, 1, 1), weight(0, 0, 3, 3)), func(l *shelf.Loft) { l.Shelves[0].Draft = 4 }), 1, api.OK, list(1)}, // 3 would be left with less draft
	} {
		n, e := shelf.First(x.l)
		l, f := shelf.Leave(x.l)
		if n != x.first || e != x.e || !slices.Equal(l, x.leave) || f != api.OK {
			t.Errorf("First, Leave of %v: %d, %v; %v, %v", x.l, n, e, l, f)
		}
	}
	for _, x := range []struct {
		l shelf.Loft
		e api.Errno
	}{{shelf.Loft{}, api.ErrArg}, {two(weight(0, 4, 0, 0)), api.ErrArg}, {shelf.Loft{Last: 6}, api.ErrLimit}, {sized(41, 7, 7), api.ErrLimit}} {
		n, e := shelf.First(x.l)
		l, f := shelf.Leave(x.l)
		if n != 0 || e != x.e || len(l) > 0 || f != x.e {
			t.Errorf("First, Leave of %v: %d, %v; %v, %v", x.l, n, e, l, f)
		}
	}
}

// P6.6
func TestFirstAndLeave(t *testing.T) {
	wrong, longest, mixed := 0, 0, 0
	for _, l := range append(lofts(), largest()) {
		want, is := wantFirst(l)
		n, e := shelf.First(l)
		if n != want || is != (e == api.OK) || !is && e != api.ErrNone {
			t.Errorf("First of %v: %d, %v, not %d", l, n, e, want)
		}
		leave := wantLeave(l)
		if set, e := shelf.Leave(l); !slices.Equal(set, leave) || e != api.OK {
			t.Errorf("Leave of %v: %v, %v, not %v", l, set, e, leave)
		}
		if is {
			wrong++
			longest = max(longest, len(leave))
		}
		if is && leave[0] < want {
			mixed++
		}
	}
	if wrong < 60 || longest < 3 || mixed < 10 {
		t.Errorf("only %d lofts have a wrong weight, %d at most are left out, and %d times an earlier one: they say too little", wrong, longest, mixed)
	}
}

// TestLargest asks all calls about the largest loft that is allowed.
func TestLargest(t *testing.T) {
	l := largest()
	truths := truthsOf(l)
	if len(allTruths(l)) != 2000 || len(truths) < 50 {
		t.Fatalf("the loft has %d truths", len(truths))
	}
	sure := sureDays(l, truths)
	for k, place := range allPlaces(l) {
		if k%7 > 0 {
			continue
		}
		for i, on := range place {
			if left, e := shelf.Left(l, place, i); !slices.Equal(left, wantLeft(l, truths, i, on)) || e != api.OK {
				t.Errorf("Left of %v, %d: %v, %v", place, i, left, e)
			}
			if n, e := shelf.Dry(l, place, i, 5); n != wantDry(l, truths, i, on, 5) || e != api.OK {
				t.Errorf("Dry of %v, %d: %d, %v", place, i, n, e)
			}
		}
		want, is := wantStuck(l, sure, place)
		if n, e := shelf.Stuck(l, place); n != want || is != (e == api.OK) {
			t.Errorf("Stuck of %v: %d, %v", place, n, e)
		}
	}
	for _, z := range []shelf.Loft{l, changed(l, func(l *shelf.Loft) { l.Weights = nil }), changed(l, func(l *shelf.Loft) { l.Shelves[1].Room = 5 })} {
		want, day, ok := wantBest(z, truthsOf(z))
		place, done, e := shelf.Best(z)
		if !slices.Equal(place, want) || done != day || ok != (e == api.OK) {
			t.Errorf("Best: %v, %d, %v, not %v, %d", place, done, e, want, day)
		}
		want, ok = wantBy(z, truthsOf(z), 5)
		if place, e := shelf.By(z, 5); !slices.Equal(place, want) || ok != (e == api.OK) {
			t.Errorf("By: %v, %v, not %v", place, e, want)
		}
	}
	for i := range l.Weights {
		z := changed(l, func(l *shelf.Loft) { l.Weights[i].Water = to(39, 40) })
		want, is := wantFirst(z)
		n, e := shelf.First(z)
		if set, f := shelf.Leave(z); n != want || is != (e == api.OK) || !slices.Equal(set, wantLeave(z)) || f != api.OK {
			t.Errorf("First, Leave: %d, %v; %v, %v", n, e, set, f)
		}
	}
}
