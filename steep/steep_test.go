package steep_test

import (
	"math"
	"slices"
	"testing"

	"anil/api"
	"anil/steep"
)

// The promises P2.1 to P2.6: the chapter's examples, the edges, and all steeps of the list against what the chapter defines.

// P2.1
func TestCheckSteep(t *testing.T) {
	vats := func(many int) steep.Steep {
		s := empty()
		s.Vats = make([]steep.Vat, many)
		return s
	}
	long := func(hours int) steep.Steep {
		return steep.Steep{Last: hours - 1, Per: 1, Warm: make([]steep.Range, hours)}
	}
	sizes := func(warm, spoil, full steep.Range) steep.Steep {
		return steep.Steep{Per: 1, Warm: []steep.Range{warm}, Spoil: spoil, Vats: []steep.Vat{{Full: full}}}
	}
	fulls := func(l ...steep.Range) steep.Steep {
		s := steep.Steep{Per: 1, Warm: ranges(1, 1)}
		for _, r := range l {
			s.Vats = append(s.Vats, steep.Vat{Full: r})
		}
		return s
	}
	bent := func(s steep.Steep) steep.Steep {
		s.Per = 0
		return s
	}
	five := make([]steep.Smell, 5)
	for _, x := range []struct {
		name string
		want api.Errno
		s    steep.Steep
	}{
		{"the example", api.OK, two()},
		{"nothing but the hour 0", api.OK, empty()},
		{"the largest steep", api.OK, largest(smell(0, 0, raw), smell(1, 5, ripe), smell(2, 2, spoiled), smell(3, 1, raw), smell(3, 5, raw))},
		{"without a truth", api.OK, untrue()},
		{"the zero value", api.ErrArg, steep.Steep{}},
		{"Last 5", api.OK, long(6)},
		{"Last 6", api.ErrLimit, long(7)},
		{"Last 6, and else not valid", api.ErrLimit, steep.Steep{Last: 6}},
		{"a huge Last", api.ErrLimit, steep.Steep{Last: math.MaxInt}},
		{"Last -1", api.ErrArg, long(0)},
		{"the smallest Last", api.ErrArg, steep.Steep{Last: math.MinInt, Per: 1, Warm: ranges(0, 0)}},
		{"4 vats", api.OK, vats(4)},
		{"5 vats", api.ErrLimit, vats(5)},
		{"5 vats, and else not valid", api.ErrLimit, bent(vats(5))},
		{"5 smells", api.OK, two(five...)},
		{"6 smells", api.ErrLimit, two(make([]steep.Smell, 6)...)},
		{"6 smells, one not valid", api.ErrLimit, two(append(slices.Clone(five), smell(-1, 0, 3))...)},
		{"6 smells, and no vats", api.ErrLimit, with(empty(), make([]steep.Smell, 6)...)},
		{"a smell, and no vats", api.ErrArg, with(empty(), smell(0, 0, raw))},
		{"2000 truths", api.OK, sizes(to(0, 9), to(80, 99), to(1, 10))},
		{"2001 truths", api.ErrLimit, sizes(to(7, 9), to(71, 99), to(0, 22))},
		{"2002 truths", api.ErrLimit, sizes(to(1, 7), to(0, 10), to(0, 25))},
		{"2000 truths of four hours", api.OK, steep.Steep{Last: 3, Per: 1, Warm: ranges(0, 9, 0, 1, 0, 9, 0, 9)}},
		{"2016 truths of four hours", api.ErrLimit, steep.Steep{Last: 3, Per: 1, Warm: ranges(2, 5, 3, 9, 0, 7, 1, 9)}},
		{"2000 truths of four vats", api.OK, fulls(to(1, 4), to(0, 4), to(90, 99), to(0, 9))},
		{"2002 truths of four vats", api.ErrLimit, fulls(to(1, 2), to(0, 6), to(89, 99), to(0, 12))},
		{"2001 truths, and Per 0", api.ErrArg, bent(sizes(to(7, 9), to(71, 99), to(0, 22)))},
		{"2001 truths, and a bad smell", api.ErrArg, with(sizes(to(7, 9), to(71, 99), to(0, 22)), smell(1, 0, raw))},
		{"all truths of the largest ranges", api.ErrLimit, steep.Steep{Last: 5, Per: 9, Warm: ranges(0, 9, 0, 9, 0, 9, 0, 9, 0, 9, 0, 9), Spoil: to(0, 99), Vats: []steep.Vat{{Full: to(0, 99)}, {Full: to(0, 99)}, {Full: to(0, 99)}, {Full: to(0, 99)}}}},
	} {
		if e := steep.CheckSteep(x.s); e != x.want {
			t.Errorf("%s: %v", x.name, e)
		}
	}
}

// P2.1: TestCheckNumbers changes one number of a steep at a time, to both sides of its limits.
func TestCheckNumbers(t *testing.T) {
	for _, x := range []struct {
		name      string
		low, high int // what is valid
		set       func(s *steep.Steep, n int)
	}{
		{"Per", 1, 9, func(s *steep.Steep, n int) { s.Per = n }},
		{"Begin", 0, 1, func(s *steep.Steep, n int) { s.Vats[0].Begin = n }}, // the smell 0 is after the hour 1
		{"Begin of the last vat", 0, 3, func(s *steep.Steep, n int) { s.Vats[1].Begin = n }},
		{"Need", 0, 99, func(s *steep.Steep, n int) { s.Vats[0].Need = n }},
		{"Need of the last vat", 0, 99, func(s *steep.Steep, n int) { s.Vats[1].Need = n }},
		{"Vat of a smell", 0, 1, func(s *steep.Steep, n int) { s.Smells[0].Vat = n }},
		{"Vat of the last smell", 0, 1, func(s *steep.Steep, n int) { s.Smells[1].Vat = n }},
		{"Hour of a smell", 0, 3, func(s *steep.Steep, n int) { s.Smells[0].Hour = n }},
		{"Hour of the last smell", 2, 3, func(s *steep.Steep, n int) {
			s.Smells[1].Vat, s.Vats[1].Begin = 1, 2
			s.Smells[1].Hour = n
		}},
		{"Kind of a smell", 0, 2, func(s *steep.Steep, n int) { s.Smells[0].Kind = n }},
		{"Kind of the last smell", 0, 2, func(s *steep.Steep, n int) { s.Smells[1].Kind = n }},
		{"how many Warm", 4, 4, func(s *steep.Steep, n int) { s.Warm = make([]steep.Range, min(max(0, n), 20)) }},
		{"Last", 3, 3, func(s *steep.Steep, n int) { s.Last = min(n, api.MaxSteepLast) }}, // there are four Warm
	} {
		for _, n := range list(x.low, x.high, x.low-1, x.high+1, (x.low+x.high)/2, math.MinInt, math.MaxInt, -7, 77777) {
			s := two(smell(0, 1, ripe), smell(0, 3, ripe))
			x.set(&s, n)
			checks(t, s, x.low <= n && n <= x.high)
		}
	}
}

// P2.1: TestCheckRanges changes one range of a steep at a time.
func TestCheckRanges(t *testing.T) {
	all := ranges(0, 0, 9, 9, 0, 9, 8, 10, 10, 10, -1, 3, -2, -1, 4, 3, 1, 0, 9, 8, 0, 10, 99, 99, 90, 99, 98, 100, 100, 100, 99, 98,
		math.MinInt, math.MaxInt, math.MaxInt, math.MinInt, 0, math.MaxInt, math.MinInt, 0, math.MaxInt, math.MaxInt, math.MinInt, math.MinInt)
	for _, r := range all {
		isUpTo := func(most int) bool { return 0 <= r.Lo && r.Lo <= r.Hi && r.Hi <= most }
		for h := range 4 {
			s := two(smell(0, 1, ripe))
			s.Warm[h] = r
			checks(t, s, isUpTo(9))
		}
		s := two(smell(0, 1, ripe))
		s.Spoil = r
		checks(t, s, isUpTo(99))
		for v := range 2 {
			s := two(smell(0, 1, ripe))
			s.Vats[v].Full = r
			checks(t, s, isUpTo(99))
		}
	}
}

func checks(t *testing.T, s steep.Steep, valid bool) {
	t.Helper()
	want := api.ErrArg
	if valid {
		want = api.OK
	}
	if e := steep.CheckSteep(s); e != want {
		t.Errorf("CheckSteep of %v: %v", s, e)
	}
}

// P2.1
func TestExampleOfPlay(t *testing.T) {
	out, kinds, e := steep.Play(two(), truthOf(7, list(2, 2, 2, 3), list(21, 9)))
	if !equalLists(out, [][]int{{6, 12, 18, 21}, {6, 9, 9}}) || !equalLists(kinds, [][]int{{raw, raw, ripe, spoiled}, {raw, ripe, ripe}}) || e != api.OK {
		t.Errorf("Play: %v, %v, %v", out, kinds, e)
	}
	out, kinds, e = steep.Play(empty(), truthOf(0, list(1), nil))
	if len(out) > 0 || len(kinds) > 0 || e != api.OK {
		t.Errorf("Play without vats: %v, %v, %v", out, kinds, e)
	}
}

func equalLists(a, b [][]int) bool { return slices.EqualFunc(a, b, slices.Equal[[]int]) }

// P2.1: what is just enough, and one less or more.
func TestEdgesOfKinds(t *testing.T) {
	for _, x := range []struct {
		name                   string
		per, warm, spoil       int
		full, need, out, wants int
	}{
		{"just the need", 3, 4, 9, 20, 12, 12, ripe},
		{"one less than the need", 3, 4, 9, 20, 13, 12, raw},
		{"just what spoils it", 3, 4, 4, 20, 12, 12, ripe},
		{"one more than spoils it", 3, 4, 3, 20, 12, 12, spoiled},
		{"spoiled while raw", 3, 4, 3, 20, 13, 12, spoiled},
		{"just the full", 3, 4, 9, 12, 12, 12, ripe},
		{"more than the full", 3, 4, 9, 11, 11, 11, ripe},
		{"never full enough", 3, 9, 9, 11, 12, 11, raw},
		{"no need", 3, 0, 9, 11, 0, 0, ripe},
		{"no leaves, and no need", 3, 9, 9, 0, 0, 0, ripe},
		{"not warm, and spoiled by none", 3, 0, 0, 9, 0, 0, ripe},
		{"the least warmth spoils", 3, 1, 0, 9, 0, 3, spoiled},
		{"the most of all", 9, 9, 99, 99, 81, 81, ripe},
	} {
		s := steep.Steep{Per: x.per, Warm: ranges(x.warm, x.warm), Spoil: to(x.spoil, x.spoil), Vats: []steep.Vat{{Full: to(x.full, x.full), Need: x.need}}}
		out, kinds, e := steep.Play(s, truthOf(x.spoil, list(x.warm), list(x.full)))
		if !equalLists(out, [][]int{{x.out}}) || !equalLists(kinds, [][]int{{x.wants}}) || e != api.OK {
			t.Errorf("%s: %v, %v, %v", x.name, out, kinds, e)
		}
	}
}

// P2.1
func TestTruths(t *testing.T) {
	for _, x := range []struct {
		name  string
		s     steep.Steep
		t     steep.Truth
		truth bool
		e     api.Errno
	}{
		{"the example", two(), truthOf(7, list(2, 2, 2, 3), list(21, 9)), true, api.OK},
		{"the lowest numbers", two(), truthOf(7, list(2, 2, 1, 3), list(20, 9)), true, api.OK},
		{"the highest numbers", two(), truthOf(8, list(3, 2, 2, 3), list(22, 9)), true, api.OK},
		{"a smell that is right", two(smell(0, 2, ripe)), truthOf(7, list(2, 2, 2, 3), list(21, 9)), true, api.OK},
		{"a smell that is false", two(smell(0, 1, ripe)), truthOf(7, list(2, 2, 2, 3), list(21, 9)), false, api.OK},
		{"the last one of smells is false", two(smell(0, 0, raw), smell(0, 3, spoiled), smell(1, 2, raw)), truthOf(7, list(2, 2, 2, 3), list(21, 9)), false, api.OK},
		{"the first one of smells is false", two(smell(1, 2, raw), smell(0, 0, raw), smell(0, 3, spoiled)), truthOf(7, list(2, 2, 2, 3), list(21, 9)), false, api.OK},
		{"without a truth", untrue(), truthOf(7, list(2, 2, 2, 3), list(21, 9)), false, api.OK},
		{"no vats", empty(), truthOf(0, list(1), list()), true, api.OK},
		{"the largest steep", largest(), truthOf(27, list(9, 9, 4, 0, 9, 9), list(99, 99, 0, 81)), true, api.OK},
		{"not warm enough", two(), truthOf(7, list(1, 2, 2, 3), list(21, 9)), false, api.ErrRange},
		{"too warm", two(), truthOf(7, list(4, 2, 2, 3), list(21, 9)), false, api.ErrRange},
		{"the last hour not warm enough", two(), truthOf(7, list(2, 2, 2, 2), list(21, 9)), false, api.ErrRange},
		{"the last hour too warm", two(), truthOf(7, list(2, 2, 2, 4), list(21, 9)), false, api.ErrRange},
		{"too small a Spoil", two(), truthOf(6, list(2, 2, 2, 3), list(21, 9)), false, api.ErrRange},
		{"too great a Spoil", two(), truthOf(9, list(2, 2, 2, 3), list(21, 9)), false, api.ErrRange},
		{"too small a Full", two(), truthOf(7, list(2, 2, 2, 3), list(19, 9)), false, api.ErrRange},
		{"too great a Full", two(), truthOf(7, list(2, 2, 2, 3), list(23, 9)), false, api.ErrRange},
		{"too small a Full of the last vat", two(), truthOf(7, list(2, 2, 2, 3), list(21, 8)), false, api.ErrRange},
		{"too great a Full of the last vat", two(), truthOf(7, list(2, 2, 2, 3), list(21, 10)), false, api.ErrRange},
		{"an hour too few", two(), truthOf(7, list(2, 2, 2), list(21, 9)), false, api.ErrRange},
		{"an hour too many", two(), truthOf(7, list(2, 2, 2, 3, 0), list(21, 9)), false, api.ErrRange},
		{"many hours too many", two(), truthOf(7, append(list(2, 2, 2, 3), make([]int, 99)...), list(21, 9)), false, api.ErrRange},
		{"a vat too few", two(), truthOf(7, list(2, 2, 2, 3), list(21)), false, api.ErrRange},
		{"a vat too many", two(), truthOf(7, list(2, 2, 2, 3), list(21, 9, 0)), false, api.ErrRange},
		{"many vats too many", two(), truthOf(7, list(2, 2, 2, 3), append(list(21, 9), make([]int, 99)...)), false, api.ErrRange},
		{"an hour too few, where 0 is in its range", largest(), truthOf(27, list(9, 9, 4), list(99, 99, 0, 81)), false, api.ErrRange},
		{"the zero value", two(), steep.Truth{}, false, api.ErrRange},
		{"a vat for no vats", empty(), truthOf(0, list(1), list(0)), false, api.ErrRange},
		{"huge", two(), truthOf(math.MaxInt, list(math.MinInt, 2, math.MaxInt, 3), list(21, math.MinInt)), false, api.ErrRange},
		{"no truth, and without a truth", untrue(), steep.Truth{}, false, api.ErrRange},
		{"not valid", two(smell(2, 0, raw)), truthOf(7, list(2, 2, 2, 3), list(21, 9)), false, api.ErrArg},
		{"not valid, and no truth", steep.Steep{}, steep.Truth{}, false, api.ErrArg},
		{"too many smells", two(make([]steep.Smell, 6)...), truthOf(7, list(2, 2, 1, 3), list(20, 9)), false, api.ErrLimit},
	} {
		out, kinds, e := steep.Play(x.s, x.t)
		if e != x.e || e == api.OK && (len(out) != len(x.s.Vats) || len(kinds) != len(x.s.Vats)) || e != api.OK && (out != nil || kinds != nil) {
			t.Errorf("%s: Play is %v, %v, %v", x.name, out, kinds, e)
		}
		if steep.ProveTruth(x.s, x.t) != x.truth {
			t.Errorf("%s: ProveTruth is %v", x.name, !x.truth)
		}
	}
}

// P2.1
func TestPlayOfAllTruths(t *testing.T) {
	for _, s := range append(steeps(), two(), untrue(), largest(smell(0, 2, ripe))) {
		for _, x := range allTruths(s) {
			var wantOut, wantKinds [][]int
			for v := range s.Vats {
				var o, k []int
				for _, h := range hoursOf(s, v) {
					o, k = append(o, outOf(s, x, v, h)), append(k, kindOf(s, x, v, h))
				}
				wantOut, wantKinds = append(wantOut, o), append(wantKinds, k)
			}
			out, kinds, e := steep.Play(s, x)
			if !equalLists(out, wantOut) || !equalLists(kinds, wantKinds) || e != api.OK {
				t.Fatalf("Play of %v, %v: %v, %v, %v", s, x, out, kinds, e)
			}
		}
	}
}

// P2.1
func TestProveAllTruths(t *testing.T) {
	for _, s := range append(steeps(), two(), two(smell(0, 1, ripe)), untrue()) {
		for _, x := range allTruths(s) {
			if steep.ProveTruth(s, x) != (len(wrongIn(s, x)) == 0) {
				t.Errorf("ProveTruth of %v, %v is not %v", s, x, len(wrongIn(s, x)) == 0)
			}
		}
	}
}

// P2.2
func TestExamplesOfOut(t *testing.T) {
	for _, x := range []struct {
		s    steep.Steep
		in   int
		want []steep.Range
		e    api.Errno
	}{
		{two(), 0, ranges(6, 9, 12, 15, 15, 21, 20, 22), api.OK}, {two(), 1, ranges(6, 6, 9, 9, 9, 9), api.OK},
		{two(smell(0, 1, ripe)), 0, ranges(9, 9, 15, 15, 18, 21, 20, 22), api.OK}, // the hour 0 is warm then
		{largest(), 0, ranges(0, 81, 81, 99, 81, 99, 81, 99, 98, 99, 98, 99), api.OK}, {largest(), 1, ranges(81, 81), api.OK}, {largest(), 2, ranges(0, 0, 0, 0, 0, 0, 0, 0), api.OK},
		{two(), 2, nil, api.ErrRange}, {two(), -1, nil, api.ErrRange}, {empty(), 0, nil, api.ErrRange}, {untrue(), 2, nil, api.ErrRange},
		{untrue(), 0, nil, api.ErrFalse}, {untrue(), 1, nil, api.ErrFalse}, {steep.Steep{}, 0, nil, api.ErrArg}, {steep.Steep{Last: 6}, 0, nil, api.ErrLimit},
	} {
		if l, e := steep.Out(x.s, x.in); !slices.Equal(l, x.want) || e != x.e {
			t.Errorf("Out of %v, %d: %v, %v", x.s, x.in, l, e)
		}
	}
}

// P2.2
func TestOut(t *testing.T) {
	for _, s := range steeps() {
		truths := truthsOf(s)
		for v := range s.Vats {
			l, e := steep.Out(s, v)
			if len(truths) == 0 {
				if len(l) > 0 || e != api.ErrFalse {
					t.Errorf("Out of %v, %d: %v, %v", s, v, l, e)
				}
				continue
			}
			if !slices.Equal(l, wantOut(s, truths, v)) || e != api.OK {
				t.Errorf("Out of %v, %d: %v, %v", s, v, l, e)
			}
		}
	}
}

// P2.3
func TestExamplesOfRight(t *testing.T) {
	for _, x := range []struct {
		s        steep.Steep
		in, hour int
		want     int
		e        api.Errno
	}{
		{two(), 0, 0, never, api.OK}, {two(), 0, 1, perhaps, api.OK}, {two(), 0, 2, always, api.OK}, {two(), 0, 3, perhaps, api.OK},
		{two(), 1, 1, never, api.OK}, {two(), 1, 2, always, api.OK}, {two(), 1, 3, always, api.OK},
		{two(smell(0, 1, ripe)), 0, 1, always, api.OK}, {two(smell(0, 1, ripe)), 0, 3, never, api.OK}, {two(smell(0, 1, raw)), 0, 1, never, api.OK},
		{two(), 0, 4, 0, api.ErrRange}, {two(), 0, -1, 0, api.ErrRange}, {two(), 1, 0, 0, api.ErrRange}, {two(), 1, 4, 0, api.ErrRange}, {two(), 2, 1, 0, api.ErrRange}, {two(), -1, 1, 0, api.ErrRange}, {empty(), 0, 0, 0, api.ErrRange},
		{two(), 0, math.MaxInt, 0, api.ErrRange}, {two(), 0, math.MinInt, 0, api.ErrRange}, {two(), math.MaxInt, 0, 0, api.ErrRange}, {two(), math.MinInt, 0, 0, api.ErrRange},
		{untrue(), 0, 4, 0, api.ErrRange}, {untrue(), 1, 0, 0, api.ErrRange}, {untrue(), 2, 1, 0, api.ErrRange}, {untrue(), 0, 2, 0, api.ErrFalse}, {steep.Steep{}, 0, 0, 0, api.ErrArg}, {steep.Steep{Last: 6}, 9, 9, 0, api.ErrLimit},
	} {
		n, e := steep.Right(x.s, x.in, x.hour)
		if n != x.want || e != x.e {
			t.Errorf("Right of %v, %d, %d: %d, %v", x.s, x.in, x.hour, n, e)
		}
		if steep.ProveGood(x.s, x.in, x.hour) != (x.e == api.OK && x.want == always) {
			t.Errorf("ProveGood of %v, %d, %d", x.s, x.in, x.hour)
		}
	}
}

// P2.3, P2.4
func TestRightAndGood(t *testing.T) {
	said := map[int]int{}
	for _, s := range steeps() {
		truths := truthsOf(s)
		if len(truths) == 0 {
			continue
		}
		stuck, is := 0, false
		for v := range s.Vats {
			for _, h := range hoursOf(s, v) {
				n, e := steep.Right(s, v, h)
				said[n]++
				if want := wantRight(s, truths, v, h); n != want || e != api.OK || steep.ProveGood(s, v, h) != (want == always) {
					t.Errorf("Right of %v, %d, %d: %d, %v, not %d", s, v, h, n, e, want)
				}
			}
			want := wantGood(s, truths, v)
			g, e := steep.Good(s, v)
			switch {
			case len(want) > 0 && (g != to(want[0], want[len(want)-1]) || g.Hi-g.Lo+1 != len(want) || e != api.OK), len(want) == 0 && (g != to(0, 0) || e != api.ErrShort):
				t.Errorf("Good of %v, %d: %v, %v, not %v", s, v, g, e, want)
			}
			if len(want) == 0 && !is {
				stuck, is = v, true
			}
		}
		if n, e := steep.Stuck(s); n != stuck || is != (e == api.OK) || !is && e != api.ErrNone {
			t.Errorf("Stuck of %v: %d, %v", s, n, e)
		}
	}
	for v := always; v <= perhaps; v++ {
		if said[v] < 50 {
			t.Errorf("the verdict %d comes only %d times: the steeps say too little", v, said[v])
		}
	}
}

// P2.4
func TestExamplesOfGood(t *testing.T) {
	just, needy, spent, both := two(), two(), two(), two()
	just.Vats[0].Need = 15
	needy.Vats[0].Need = 16
	spent.Vats[1].Need = 10
	both.Vats[0].Need, both.Vats[1].Need = 16, 10
	late := two()
	late.Vats[1].Begin, late.Vats[1].Need = 3, 9
	for _, x := range []struct {
		name  string
		s     steep.Steep
		good  []steep.Range // of all vats; 0..0 for ErrShort
		short []bool
		stuck int
		e     api.Errno
	}{
		{"the example", two(), ranges(2, 2, 2, 3), []bool{false, false}, 0, api.ErrNone},
		{"with a smell", two(smell(0, 1, ripe)), ranges(1, 2, 2, 3), []bool{false, false}, 0, api.ErrNone},
		{"the first vat needs just what is out", just, ranges(2, 2, 2, 3), []bool{false, false}, 0, api.ErrNone},
		{"the first vat needs more", needy, ranges(0, 0, 2, 3), []bool{true, false}, 0, api.OK},
		{"the last vat needs more", spent, ranges(2, 2, 0, 0), []bool{false, true}, 1, api.OK},
		{"both need more", both, ranges(0, 0, 0, 0), []bool{true, true}, 0, api.OK},
		{"after the last hour alone", late, ranges(2, 2, 3, 3), []bool{false, false}, 0, api.ErrNone},
		{"no vats", empty(), nil, nil, 0, api.ErrNone},
	} {
		for v, want := range x.good {
			e := api.OK
			if x.short[v] {
				e = api.ErrShort
			}
			if g, f := steep.Good(x.s, v); g != want || f != e {
				t.Errorf("%s: Good of %d: %v, %v", x.name, v, g, f)
			}
		}
		if n, e := steep.Stuck(x.s); n != x.stuck || e != x.e {
			t.Errorf("%s: Stuck: %d, %v", x.name, n, e)
		}
	}
	for _, x := range []struct {
		s  steep.Steep
		in int
		e  api.Errno
	}{
		{two(), 2, api.ErrRange}, {two(), -1, api.ErrRange}, {needy, 2, api.ErrRange}, {empty(), 0, api.ErrRange}, {untrue(), 2, api.ErrRange}, {untrue(), -1, api.ErrRange},
		{untrue(), 0, api.ErrFalse}, {with(needy, smell(0, 0, ripe)), 0, api.ErrFalse}, {steep.Steep{}, 0, api.ErrArg}, {steep.Steep{Last: 6}, 0, api.ErrLimit},
	} {
		if g, e := steep.Good(x.s, x.in); g != to(0, 0) || e != x.e {
			t.Errorf("Good of %v, %d: %v, %v", x.s, x.in, g, e)
		}
	}
	for _, x := range []struct {
		s steep.Steep
		e api.Errno
	}{{untrue(), api.ErrFalse}, {with(needy, smell(0, 0, ripe)), api.ErrFalse}, {steep.Steep{}, api.ErrArg}, {steep.Steep{Last: 6}, api.ErrLimit}} {
		if n, e := steep.Stuck(x.s); n != 0 || e != x.e {
			t.Errorf("Stuck of %v: %d, %v", x.s, n, e)
		}
	}
}

// P2.5
func TestExamplesOfAsk(t *testing.T) {
	twins := two()
	twins.Vats = append(twins.Vats, twins.Vats[0], twins.Vats[0])
	for i := range twins.Vats {
		twins.Vats[i].Full = to(22, 22)
	}
	sure := steep.Steep{Last: 1, Per: 2, Warm: ranges(1, 1, 1, 1), Spoil: to(9, 9), Vats: []steep.Vat{{Begin: 1, Full: to(9, 9)}, {Full: to(9, 9)}}}
	three := steep.Steep{Per: 1, Warm: ranges(0, 8), Spoil: to(5, 5), Vats: []steep.Vat{{Full: to(9, 9), Need: 3}}}
	for _, x := range []struct {
		name           string
		s              steep.Steep
		in, hour, left int
		e              api.Errno
	}{
		{"the example", two(), 0, 1, 12, api.OK},
		{"vats that are alike", twins, 0, 1, 4, api.OK},
		{"one truth", sure, 0, 1, 1, api.OK},
		{"three kinds", three, 0, 0, 3, api.OK},
		{"no vats", empty(), 0, 0, 0, api.ErrNone},
		{"without a truth", untrue(), 0, 0, 0, api.ErrFalse},
		{"not valid", steep.Steep{}, 0, 0, 0, api.ErrArg},
		{"too long", steep.Steep{Last: 6}, 0, 0, 0, api.ErrLimit},
	} {
		if v, h, n, e := steep.Ask(x.s); v != x.in || h != x.hour || n != x.left || e != x.e {
			t.Errorf("%s: %d, %d, %d, %v", x.name, v, h, n, e)
		}
	}
}

// P2.5
func TestAsk(t *testing.T) {
	for _, s := range append(steeps(), largest(), largest(smell(0, 5, raw))) {
		truths := truthsOf(s)
		if len(truths) == 0 || len(s.Vats) == 0 {
			continue
		}
		v, h, n, e := steep.Ask(s)
		if w, i, m := wantAsk(s, truths); v != w || h != i || n != m || e != api.OK {
			t.Errorf("Ask of %v: %d, %d, %d, %v, not %d, %d, %d", s, v, h, n, e, w, i, m)
		}
	}
}

// P2.6
func TestExamplesOfFirstAndLeave(t *testing.T) {
	for _, x := range []struct {
		s     steep.Steep
		first int
		e     api.Errno
		leave []int
	}{
		{empty(), 0, api.ErrNone, nil}, {two(), 0, api.ErrNone, nil}, {two(smell(0, 1, ripe)), 0, api.ErrNone, nil},
		{untrue(), 1, api.OK, list(0)},
		{two(smell(0, 0, ripe)), 0, api.OK, list(0)},
		{two(smell(0, 2, ripe), smell(0, 1, ripe), smell(0, 3, ripe)), 2, api.OK, list(1)},
		{two(smell(0, 1, ripe), smell(0, 3, ripe), smell(0, 3, ripe)), 1, api.OK, list(0)},
		{two(smell(0, 3, ripe), smell(0, 1, ripe), smell(0, 3, ripe)), 1, api.OK, list(1)},
		{two(smell(0, 1, ripe), smell(0, 3, ripe), smell(0, 3, ripe), smell(0, 1, ripe)), 1, api.OK, list(0, 3)},
		{two(smell(1, 3, raw), smell(0, 0, raw), smell(1, 1, spoiled), smell(0, 3, spoiled), smell(0, 2, raw)), 0, api.OK, list(0, 2, 4)},
		{two(smell(1, 3, raw), smell(1, 3, raw), smell(1, 3, raw), smell(1, 3, raw), smell(1, 3, raw)), 0, api.OK, list(0, 1, 2, 3, 4)},
		{two(smell(1, 3, ripe), smell(1, 3, ripe), smell(1, 3, ripe), smell(1, 3, ripe), smell(1, 3, raw)), 4, api.OK, list(4)},
	} {
		n, e := steep.First(x.s)
		l, f := steep.Leave(x.s)
		if n != x.first || e != x.e || !slices.Equal(l, x.leave) || f != api.OK {
			t.Errorf("First, Leave of %v: %d, %v; %v, %v", x.s, n, e, l, f)
		}
	}
	for _, x := range []struct {
		s steep.Steep
		e api.Errno
	}{{steep.Steep{}, api.ErrArg}, {two(smell(0, 1, 3)), api.ErrArg}, {steep.Steep{Last: 6}, api.ErrLimit}} {
		n, e := steep.First(x.s)
		l, f := steep.Leave(x.s)
		if n != 0 || e != x.e || len(l) > 0 || f != x.e {
			t.Errorf("First, Leave of %v: %d, %v; %v, %v", x.s, n, e, l, f)
		}
	}
}

// P2.6
func TestFirstAndLeave(t *testing.T) {
	wrong := 0
	for _, s := range steeps() {
		want, is := wantFirst(s)
		if is {
			wrong++
		}
		n, e := steep.First(s)
		if n != want || is != (e == api.OK) || !is && e != api.ErrNone {
			t.Errorf("First of %v: %d, %v, not %d", s, n, e, want)
		}
		if l, e := steep.Leave(s); !slices.Equal(l, wantLeave(s)) || e != api.OK {
			t.Errorf("Leave of %v: %v, %v", s, l, e)
		}
	}
	if wrong < 40 {
		t.Errorf("only %d steeps have a wrong smell: they say too little", wrong)
	}
}

// TestLargest asks all calls about the largest steep that is allowed.
func TestLargest(t *testing.T) {
	s := largest(smell(0, 1, ripe), smell(1, 5, ripe), smell(2, 4, ripe), smell(3, 1, ripe), smell(0, 5, spoiled))
	truths := truthsOf(s)
	if len(truths) == 0 {
		t.Fatal("the steep has no truth")
	}
	for v := range s.Vats {
		if l, e := steep.Out(s, v); !slices.Equal(l, wantOut(s, truths, v)) || e != api.OK {
			t.Errorf("Out of %d: %v, %v", v, l, e)
		}
		for _, h := range hoursOf(s, v) {
			if n, e := steep.Right(s, v, h); n != wantRight(s, truths, v, h) || e != api.OK {
				t.Errorf("Right of %d, %d: %d, %v", v, h, n, e)
			}
		}
	}
	v, h, n, e := steep.Ask(s)
	if w, i, m := wantAsk(s, truths); v != w || h != i || n != m || e != api.OK {
		t.Errorf("Ask: %d, %d, %d, %v, not %d, %d, %d", v, h, n, e, w, i, m)
	}
	for _, kind := range list(raw, spoiled) {
		z := clone(s)
		z.Smells[1].Kind = kind
		l, e := steep.Leave(z)
		if !slices.Equal(l, wantLeave(z)) || e != api.OK {
			t.Errorf("Leave: %v, %v", l, e)
		}
	}
}
