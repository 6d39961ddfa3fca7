package gang_test

import (
	"math"
	"slices"
	"testing"

	"anil/api"
	"anil/gang"
	"anil/steep"
)

// The promises P4.1 to P4.6: the chapter's examples, the edges, and all gangs of the list against what the chapter defines.

// P4.1
func TestCheckGang(t *testing.T) {
	works := func(many int) func(g *gang.Gang) {
		return func(g *gang.Gang) { g.Works = make([]gang.Work, many) }
	}
	for _, x := range []struct {
		name string
		want api.Errno
		g    gang.Gang
	}{
		{"the example", api.OK, two()},
		{"the largest gang", api.OK, largest()},
		{"a vat without a good hour", api.OK, changed(two(), func(g *gang.Gang) { g.Steep.Vats[0].Need = 16 })},
		{"no vats", api.OK, easy(2, 0, 0)},
		{"the zero value", api.ErrArg, gang.Gang{}}, // the Steep has no Per, and no Warm
		{"a steep that is not valid", api.ErrArg, changed(two(), func(g *gang.Gang) { g.Steep.Per = 0 })},
		{"a steep that is not valid, and too many men", api.ErrArg, changed(two(), func(g *gang.Gang) { g.Steep.Per, g.Men = 0, 10 })},
		{"too many smells", api.ErrLimit, changed(two(), func(g *gang.Gang) { g.Steep.Smells = make([]steep.Smell, 6) })},
		{"too many smells, and no works", api.ErrLimit, changed(two(), func(g *gang.Gang) { g.Steep.Smells, g.Works = make([]steep.Smell, 6), nil })},
		{"too many vats", api.ErrLimit, easy(2, 0, 0, make([]gang.Work, 5)...)},
		{"too many truths", api.ErrLimit, changed(two(), func(g *gang.Gang) { g.Steep.Warm = warm(0, 9, 0, 9, 0, 9, 0, 9) })},
		{"no truth", api.ErrFalse, untrue()},
		{"no truth, and too many men", api.ErrFalse, changed(untrue(), func(g *gang.Gang) { g.Men = 10 })},
		{"no truth, and a bad work", api.ErrFalse, changed(untrue(), func(g *gang.Gang) { g.Works[0].Men = -1 })},
		{"no truth, and no works", api.ErrFalse, changed(untrue(), works(0))},
		{"too many men, and a bad work", api.ErrLimit, changed(two(), func(g *gang.Gang) { g.Men, g.Works[0].Men = 10, -1 })},
		{"too late, and no works", api.ErrLimit, changed(two(), func(g *gang.Gang) { g.Close, g.Works = 10, nil })},
		{"too late, and Men -1", api.ErrLimit, changed(two(), func(g *gang.Gang) { g.Close, g.Men = 10, -1 })},
		{"too many men, and Close -1", api.ErrLimit, changed(two(), func(g *gang.Gang) { g.Close, g.Men = -1, 10 })},
		{"no works", api.ErrArg, changed(two(), works(0))},
		{"a work too few", api.ErrArg, changed(two(), works(1))},
		{"works", api.OK, changed(two(), works(2))},
		{"a work too many", api.ErrArg, changed(two(), works(3))},
		{"many works", api.ErrArg, changed(two(), works(999))},
		{"a work, and no vats", api.ErrArg, changed(easy(2, 0, 0), works(1))},
	} {
		if e := gang.CheckGang(x.g); e != x.want {
			t.Errorf("%s: %v", x.name, e)
		}
	}
}

// P4.1: TestCheckNumbers changes one number of a gang at a time, to both sides of its limits.
func TestCheckNumbers(t *testing.T) {
	for _, x := range []struct {
		name      string
		low, high int       // what is valid
		above     api.Errno // the error of what is above
		set       func(g *gang.Gang, n int)
	}{
		{"Men", 0, 9, api.ErrLimit, func(g *gang.Gang, n int) { g.Men = n }},
		{"Close", 0, 9, api.ErrLimit, func(g *gang.Gang, n int) { g.Close = n }},
		{"Men of a work", 0, 9, api.ErrArg, func(g *gang.Gang, n int) { g.Works[0].Men = n }},
		{"Men of the last work", 0, 9, api.ErrArg, func(g *gang.Gang, n int) { g.Works[1].Men = n }},
	} {
		for _, n := range list(x.low, x.high, x.low-1, x.high+1, 5, math.MinInt, math.MaxInt, -7, 77777) {
			want := api.OK
			switch {
			case n < x.low:
				want = api.ErrArg
			case n > x.high:
				want = x.above
			}
			g := two()
			x.set(&g, n)
			if e := gang.CheckGang(g); e != want {
				t.Errorf("%s %d: %v", x.name, n, e)
			}
		}
	}
}

// P4.1: TestCheckRanges changes the Hours of one work at a time.
func TestCheckRanges(t *testing.T) {
	all := ranges(0, 0, 4, 4, 0, 4, 1, 3, 3, 5, 5, 5, 0, 5, -1, 3, -1, -1, 4, 3, 1, 0, 0, -1, 5, 4,
		math.MinInt, math.MaxInt, math.MaxInt, math.MinInt, 0, math.MaxInt, math.MinInt, 0, math.MaxInt, math.MaxInt, math.MinInt, math.MinInt, 4, math.MinInt, math.MaxInt, 0)
	for _, r := range all {
		for v := range 2 {
			want := api.ErrArg
			if 0 <= r.Lo && r.Lo <= r.Hi && r.Hi <= 4 {
				want = api.OK
			}
			g := two()
			g.Works[v].Hours = r
			if e := gang.CheckGang(g); e != want {
				t.Errorf("the Hours %v of the work %d: %v", r, v, e)
			}
		}
	}
}

// P4.1
func TestExamplesOfPlay(t *testing.T) {
	late, few := two(), two()
	late.Close, few.Men = 4, 0
	rest := easy(5, 0, 3, work(9, 0, 2), work(4, 0, 4))
	for _, x := range []struct {
		name        string
		g           gang.Gang
		plan, hours []int
		want        []int
		e           api.Errno
	}{
		{"2, 2", two(), list(2, 2), list(1, 2), list(0, 0, 0, 3, 1, 0), api.OK},
		{"2, 3", two(), list(2, 3), list(2, 2), list(0, 0, 0, 2, 3, 1), api.OK},
		{"more men than there are", few, list(2, 2), list(2, 2), list(0, 0, 0, 3, 3, 0), api.OK},
		{"not ripe", two(), list(0, 1), list(2, 2), list(0, 2, 3, 1, 0, 0), api.OK},
		{"just by Close", late, list(2, 2), list(2, 2), list(0, 0, 0, 3, 3), api.OK},
		{"a work that may end after Close, but does not", late, list(3, 2), list(1, 2), list(0, 0, 0, 1, 3), api.OK},
		{"an hour after Close", late, list(3, 2), list(2, 2), nil, api.ErrFail},
		{"an hour of the last work after Close", late, list(2, 3), list(1, 2), nil, api.ErrFail},
		{"let down after Close, without work", rest, list(5, 2), list(0, 1), list(0, 0, 0, 4), api.OK},
		{"let down in the hour Close, with work", rest, list(3, 0), list(1, 0), nil, api.ErrFail},
		{"the hours at Close", rest, list(2, 0), list(1, 3), list(0, 4, 4, 13), api.OK},
		{"men who are none, after Close", easy(1, 2, 1, work(0, 0, 4)), list(1), list(1), nil, api.ErrFail},
		{"men who are none, by Close", easy(1, 2, 1, work(0, 0, 4)), list(0), list(1), list(0, 0), api.OK},
		{"the longest time", easy(5, 9, 9, work(9, 4, 4)), list(5), list(4), list(0, 0, 0, 0, 0, 0, 9, 9, 9, 9), api.OK},
		{"the most men", easy(0, 0, 1, slices.Repeat([]gang.Work{work(9, 1, 1)}, 4)...), list(0, 0, 0, 0), list(1, 1, 1, 1), list(0, 36), api.OK},
		{"Close 0", easy(0, 0, 0, work(9, 0, 0)), list(0), list(0), list(0), api.OK},
		{"no vats", easy(2, 3, 4), nil, nil, list(0, 0, 0, 0, 0), api.OK},
	} {
		if l, e := gang.Play(x.g, x.plan, x.hours); !slices.Equal(l, x.want) || e != x.e {
			t.Errorf("%s: %v, %v", x.name, l, e)
		}
	}
}

// P4.1 to P4.4
func TestPlansAndHours(t *testing.T) {
	late := changed(two(), func(g *gang.Gang) { g.Close = 2 })
	bent := changed(two(), func(g *gang.Gang) { g.Men = -1 })
	for _, x := range []struct {
		name        string
		g           gang.Gang
		plan, hours []int
		isPlan      bool
		e           api.Errno
	}{
		{"the example", two(), list(2, 2), list(1, 2), true, api.OK},
		{"the first hours", two(), list(0, 1), list(1, 2), true, api.OK},
		{"the last hours", two(), list(3, 3), list(2, 2), true, api.OK},
		{"no plan", two(), nil, list(1, 2), false, api.ErrRange},
		{"an hour too few", two(), list(2), list(1, 2), false, api.ErrRange},
		{"an hour too many", two(), list(2, 2, 2), list(1, 2), false, api.ErrRange},
		{"many hours", two(), make([]int, 999), list(1, 2), false, api.ErrRange},
		{"an hour, and no vats", easy(2, 3, 4), list(0), nil, false, api.ErrRange},
		{"before the Begin", two(), list(2, 0), list(1, 2), false, api.ErrRange},
		{"before the hour 0", two(), list(-1, 2), list(1, 2), false, api.ErrRange},
		{"after Last", two(), list(4, 2), list(1, 2), false, api.ErrRange},
		{"the last one after Last", two(), list(2, 4), list(1, 2), false, api.ErrRange},
		{"huge hours", two(), list(math.MaxInt, math.MinInt), list(1, 2), false, api.ErrRange},
		{"no numbers of hours", two(), list(2, 2), nil, true, api.ErrRange},
		{"a number too few", two(), list(2, 2), list(1), true, api.ErrRange},
		{"a number too many", two(), list(2, 2), list(1, 2, 2), true, api.ErrRange},
		{"many numbers", two(), list(2, 2), make([]int, 999), true, api.ErrRange},
		{"a number, and no vats", easy(2, 3, 4), nil, list(0), true, api.ErrRange},
		{"below the Hours", two(), list(2, 2), list(0, 2), true, api.ErrRange},
		{"above the Hours", two(), list(2, 2), list(3, 2), true, api.ErrRange},
		{"the last one below", two(), list(2, 2), list(1, 1), true, api.ErrRange},
		{"the last one above", two(), list(2, 2), list(1, 3), true, api.ErrRange},
		{"huge numbers", two(), list(2, 2), list(math.MaxInt, math.MinInt), true, api.ErrRange},
		{"no plan, after Close", late, list(4, 2), list(1, 2), false, api.ErrRange},
		{"no numbers, after Close", late, list(2, 2), list(1, 3), true, api.ErrRange},
		{"not valid", bent, list(2, 2), list(1, 2), false, api.ErrArg},
		{"not valid, and no plan", bent, list(9), list(9), false, api.ErrArg},
		{"no truth, and no plan", untrue(), list(9), list(9), false, api.ErrFalse},
	} {
		l, e := gang.Play(x.g, x.plan, x.hours)
		if e != x.e || e == api.OK && len(l) != x.g.Close+1 || e != api.OK && l != nil {
			t.Errorf("%s: Play is %v, %v", x.name, l, e)
		}
		b, e := gang.Busy(x.g, x.plan)
		_, f := gang.Late(x.g, x.plan)
		if x.isPlan {
			if e == api.ErrRange || f == api.ErrRange {
				t.Errorf("%s: Busy and Late are %v, %v", x.name, e, f)
			}
		} else if e != x.e || len(b) > 0 || f != x.e || gang.ProvePlan(x.g, x.plan, 99) {
			t.Errorf("%s: Busy, Late and ProvePlan are %v, %v, %v", x.name, b, e, f)
		}
	}
}

// P4.1, P4.2
func TestPlayAndBusy(t *testing.T) {
	failed, played := 0, 0
	for _, g := range append(gangs(), two()) {
		for i, plan := range allPlans(g) {
			if i%2 > 0 && len(g.Works) > 2 { // half of the many
				continue
			}
			var all [][]int
			for _, hours := range allHours(g) {
				want, wanted := wantPlay(g, plan, hours)
				if l, e := gang.Play(g, plan, hours); !slices.Equal(l, want) || e != wanted {
					t.Fatalf("Play of %v, %v, %v: %v, %v, not %v", g, plan, hours, l, e, want)
				}
				all = append(all, want)
			}
			if slices.ContainsFunc(all, func(l []int) bool { return l == nil }) {
				failed++
				if l, e := gang.Busy(g, plan); l != nil || e != api.ErrFail {
					t.Fatalf("Busy of %v, %v: %v, %v", g, plan, l, e)
				}
				continue
			}
			played++
			if l, e := gang.Busy(g, plan); !slices.Equal(l, ends(all)) || e != api.OK {
				t.Fatalf("Busy of %v, %v: %v, %v, not %v", g, plan, l, e, ends(all))
			}
		}
	}
	if failed < 1000 || played < 1000 {
		t.Errorf("%d plans have an hour after Close, and %d have none: the gangs say too little", failed, played)
	}
}

func wantPlay(g gang.Gang, plan, hours []int) (men []int, e api.Errno) {
	vats := everyVat(g)
	if isAfterClose(g, vats, plan, hours) {
		return nil, api.ErrFail
	}
	for h := range g.Close + 1 {
		men = append(men, menIn(g, vats, plan, hours, h))
	}
	return men, api.OK
}

// ends returns the ranges of the numbers that lists have at the same index.
func ends(all [][]int) (out []gang.Range) {
	for i := range all[0] {
		r := to(all[0][i], all[0][i])
		for _, l := range all {
			r = to(min(r.Lo, l[i]), max(r.Hi, l[i]))
		}
		out = append(out, r)
	}
	return out
}

// P4.2
func TestExamplesOfBusy(t *testing.T) {
	late, few := two(), two()
	late.Close, few.Men = 4, 0
	rest := easy(5, 0, 3, work(9, 0, 0), work(4, 0, 2))
	for _, x := range []struct {
		name string
		g    gang.Gang
		plan []int
		want []gang.Range
		e    api.Errno
	}{
		{"2, 2", two(), list(2, 2), ranges(0, 0, 0, 0, 0, 0, 3, 3, 1, 3, 0, 0), api.OK},
		{"2, 3", two(), list(2, 3), ranges(0, 0, 0, 0, 0, 0, 2, 2, 1, 3, 1, 1), api.OK},
		{"more men than there are", few, list(2, 2), ranges(0, 0, 0, 0, 0, 0, 3, 3, 1, 3, 0, 0), api.OK},
		{"not ripe", two(), list(0, 1), ranges(0, 0, 2, 2, 1, 3, 1, 1, 0, 0, 0, 0), api.OK},
		{"just by Close", late, list(2, 2), ranges(0, 0, 0, 0, 0, 0, 3, 3, 1, 3), api.OK},
		{"after Close", late, list(2, 3), nil, api.ErrFail},
		{"after Close with some numbers", late, list(3, 2), nil, api.ErrFail},
		{"let down after Close, without work", rest, list(5, 1), ranges(0, 0, 0, 0, 0, 4, 0, 4), api.OK},
		{"let down after Close, perhaps with work", rest, list(5, 3), nil, api.ErrFail},
		{"men who are none, after Close", easy(1, 2, 1, work(0, 0, 4)), list(1), nil, api.ErrFail},
		{"no vats", easy(2, 3, 1), nil, ranges(0, 0, 0, 0), api.OK},
		{"no truth", untrue(), list(2, 2), nil, api.ErrFalse},
		{"not valid", changed(two(), func(g *gang.Gang) { g.Close = -1 }), list(2, 2), nil, api.ErrArg},
	} {
		if l, e := gang.Busy(x.g, x.plan); !slices.Equal(l, x.want) || e != x.e {
			t.Errorf("%s: %v, %v", x.name, l, e)
		}
	}
}

// P4.3
func TestExamplesOfLate(t *testing.T) {
	none := changed(two(), func(g *gang.Gang) { g.Close, g.Men = 0, 0 })
	for _, x := range []struct {
		name string
		g    gang.Gang
		plan []int
		want int
		e    api.Errno
	}{
		{"1, 2", two(), list(1, 2), 0, api.OK},
		{"2, 1", two(), list(2, 1), 1, api.OK},
		{"2, 2", two(), list(2, 2), 0, api.ErrNone},
		{"perhaps spoiled", two(), list(3, 2), 0, api.OK},
		{"both", two(), list(0, 1), 0, api.OK},
		{"men who do not suffice", none, list(2, 1), 1, api.OK},
		{"ripe, but men who do not suffice", none, list(2, 3), 0, api.ErrNone},
		{"with a smell", two(smell(0, 1, ripe)), list(1, 2), 0, api.ErrNone},
		{"without a good hour", changed(two(), func(g *gang.Gang) { g.Steep.Vats[1].Need = 10 }), list(2, 2), 1, api.OK},
		{"no vats", easy(2, 3, 4), nil, 0, api.ErrNone},
		{"no plan", two(), list(1), 0, api.ErrRange},
		{"no truth", untrue(), list(2, 2), 0, api.ErrFalse},
	} {
		if n, e := gang.Late(x.g, x.plan); n != x.want || e != x.e {
			t.Errorf("%s: %d, %v", x.name, n, e)
		}
	}
}

// P4.3, P4.4
func TestLateAndProvePlan(t *testing.T) {
	sure, late, none := 0, 0, 0
	for _, g := range append(gangs(), two()) {
		r := ripenessOf(g)
		for _, plan := range allPlans(g) {
			want, isLate := wantLate(r, everyVat(g), plan)
			n, e := gang.Late(g, plan)
			if n != want || isLate != (e == api.OK) || !isLate && e != api.ErrNone {
				t.Fatalf("Late of %v, %v: %d, %v, not %d", g, plan, n, e, want)
			}
			if isLate {
				late++
			}
			isSure, done := isSure(g, r, everyVat(g), plan), wantDone(g, plan)
			if isSure {
				sure++
			} else {
				none++
			}
			for _, n := range list(done, done+1, 99, done-1, -1, math.MinInt) {
				if gang.ProvePlan(g, plan, n) != (isSure && n >= done) {
					t.Fatalf("ProvePlan of %v, %v, %d: the plan is sure: %v, and done in %d", g, plan, n, isSure, done)
				}
			}
		}
	}
	if sure < 200 || late < 200 || none-late < 200 {
		t.Errorf("%d plans are sure, %d late and %d without the men: the gangs say too little", sure, late, none-late)
	}
}

// P4.4, P4.5
func TestExamplesOfBest(t *testing.T) {
	shut := func(n int) gang.Gang { return changed(two(), func(g *gang.Gang) { g.Close = n }) }
	for _, x := range []struct {
		name   string
		g      gang.Gang
		want   []int
		done   int
		e      api.Errno
		fewest int
		f      api.Errno
	}{
		{"the example", two(), list(2, 2), 4, api.OK, 3, api.OK},
		{"with Men 2", men(2), nil, 0, api.ErrShort, 3, api.OK},
		{"with Men 2, and a shorter work", changed(men(2), func(g *gang.Gang) { g.Works[0].Hours = to(1, 1) }), list(2, 3), 5, api.OK, 2, api.OK},
		{"with Men 9", men(9), list(2, 2), 4, api.OK, 3, api.OK},
		{"with Men 0", men(0), nil, 0, api.ErrShort, 3, api.OK},
		{"with Close 4", shut(4), list(2, 2), 4, api.OK, 3, api.OK},
		{"with Close 3", shut(3), nil, 0, api.ErrShort, 0, api.ErrShort},
		{"with a smell", two(smell(0, 1, ripe)), list(1, 2), 4, api.OK, 2, api.OK},
		{"with a smell, and Men 2", changed(two(smell(0, 1, ripe)), func(g *gang.Gang) { g.Men = 2 }), list(1, 3), 5, api.OK, 2, api.OK},
		{"no good hour", changed(two(), func(g *gang.Gang) { g.Steep.Vats[0].Need = 16 }), nil, 0, api.ErrShort, 0, api.ErrShort},
		{"of DOC.md, with three men", easy(0, 3, 2, work(2, 1, 2), work(1, 2, 2)), list(0, 0), 2, api.OK, 3, api.OK},
		{"of DOC.md, with two men", easy(0, 2, 2, work(2, 1, 2), work(1, 2, 2)), nil, 0, api.ErrShort, 3, api.OK},
		{"of plans that are done as early, the first", easy(3, 1, 9, work(1, 1, 1), work(1, 2, 2)), list(0, 1), 3, api.OK, 1, api.OK},
		{"the later vat is done last", easy(3, 1, 9, work(1, 2, 2), work(0, 4, 4)), list(0, 0), 4, api.OK, 1, api.OK},
		{"one after the other", easy(4, 2, 9, slices.Repeat([]gang.Work{work(2, 0, 1)}, 4)...), list(0, 1, 2, 3), 4, api.OK, 2, api.OK},
		{"two at a time", easy(4, 5, 9, slices.Repeat([]gang.Work{work(2, 0, 1)}, 4)...), list(0, 0, 1, 1), 2, api.OK, 2, api.OK},
		{"just in time", easy(4, 2, 4, slices.Repeat([]gang.Work{work(2, 0, 1)}, 4)...), list(0, 1, 2, 3), 4, api.OK, 2, api.OK},
		{"not in time", easy(4, 2, 3, slices.Repeat([]gang.Work{work(2, 0, 1)}, 4)...), nil, 0, api.ErrShort, 4, api.OK},
		{"no work, after Close", changed(easy(5, 0, 0, work(9, 0, 0)), func(g *gang.Gang) { g.Steep.Vats[0].Begin = 4 }), list(4), 4, api.OK, 0, api.OK},
		{"more men than there can be", easy(0, 9, 9, work(9, 1, 1), work(1, 1, 1)), nil, 0, api.ErrShort, 0, api.ErrShort},
		{"as many as there can be", easy(0, 9, 9, work(8, 1, 1), work(1, 1, 1)), list(0, 0), 1, api.OK, 9, api.OK},
		{"men who are none", easy(2, 0, 4, work(0, 4, 4), work(0, 1, 3)), list(0, 0), 4, api.OK, 0, api.OK},
		{"no vats", easy(2, 0, 0), nil, 0, api.OK, 0, api.OK},
		{"without a truth", untrue(), nil, 0, api.ErrFalse, 0, api.ErrFalse},
		{"too many men", men(10), nil, 0, api.ErrLimit, 0, api.ErrLimit},
		{"Men -1", men(-1), nil, 0, api.ErrArg, 0, api.ErrArg},
	} {
		l, n, e := gang.Best(x.g)
		if !slices.Equal(l, x.want) || n != x.done || e != x.e {
			t.Errorf("%s: %v, %d, %v", x.name, l, n, e)
		}
		if gang.ProvePlan(x.g, l, n) != (e == api.OK) || gang.ProvePlan(x.g, l, n-1) {
			t.Errorf("%s: ProvePlan", x.name)
		}
		if n, e := gang.Fewest(x.g); n != x.fewest || e != x.f {
			t.Errorf("%s: Fewest is %d, %v", x.name, n, e)
		}
	}
}

// P4.4, P4.5
func TestBestAndFewest(t *testing.T) {
	best, none, more := 0, 0, 0
	for _, g := range append(gangs(), two()) {
		want, done, ok := wantBest(g)
		l, n, e := gang.Best(g)
		if !slices.Equal(l, want) || n != done || ok != (e == api.OK) || !ok && e != api.ErrShort {
			t.Errorf("Best of %v: %v, %d, %v, not %v, %d", g, l, n, e, want, done)
		}
		fewest, can := wantFewest(g)
		n, e = gang.Fewest(g)
		if n != fewest || can != (e == api.OK) || !can && e != api.ErrShort {
			t.Errorf("Fewest of %v: %d, %v, not %d", g, n, e, fewest)
		}
		switch {
		case ok:
			best++
		case can:
			more++
		default:
			none++
		}
	}
	if best < 50 || none < 30 || more < 20 {
		t.Errorf("%d gangs have a sure plan, %d with more men, and %d none: the gangs say too little", best, more, none)
	}
}

// P4.6
func TestExamplesOfLeftAndWorth(t *testing.T) {
	short := func(n int) gang.Gang { return changed(men(n), func(g *gang.Gang) { g.Works[0].Hours = to(1, 1) }) }
	alike := slices.Repeat([]gang.Work{work(2, 0, 1)}, 4)
	for _, x := range []struct {
		name  string
		g     gang.Gang
		left  []int
		e     api.Errno
		worth int
		f     api.Errno
	}{
		{"the example", two(), nil, api.OK, 0, api.OK},
		{"with Men 2", men(2), list(0), api.OK, 0, api.ErrShort},
		{"with Men 1", men(1), list(0), api.OK, 0, api.ErrShort},
		{"with Men 0", men(0), list(0, 1), api.OK, 0, api.ErrShort},
		{"with Men 9", men(9), nil, api.OK, 0, api.ErrRange},
		{"with Men 8", men(8), nil, api.OK, 0, api.OK},
		{"with Men 2, and a shorter work", short(2), nil, api.OK, 1, api.OK},
		{"with Men 3, and a shorter work", short(3), nil, api.OK, 0, api.OK},
		{"no good hour", changed(two(), func(g *gang.Gang) { g.Steep.Vats[0].Need = 16 }), list(0), api.OK, 0, api.ErrShort},
		{"no good hour, and Men 9", changed(men(9), func(g *gang.Gang) { g.Steep.Vats[0].Need = 16 }), list(0), api.OK, 0, api.ErrRange},
		{"no good hour of the last vat", changed(two(), func(g *gang.Gang) { g.Steep.Vats[1].Need = 10 }), list(1), api.OK, 0, api.ErrShort},
		{"no good hours", changed(two(), func(g *gang.Gang) { g.Steep.Vats[0].Need, g.Steep.Vats[1].Need = 99, 99 }), list(0, 1), api.OK, 0, api.ErrShort},
		{"Close 3", changed(two(), func(g *gang.Gang) { g.Close = 3 }), list(0, 1), api.OK, 0, api.ErrShort},
		{"one hour for four", easy(0, 2, 1, alike...), list(0, 1, 2), api.OK, 0, api.ErrShort},
		{"two hours for four", easy(1, 2, 2, alike...), list(0, 1), api.OK, 0, api.ErrShort},
		{"three hours for four", easy(2, 3, 3, alike...), list(0), api.OK, 0, api.ErrShort},
		{"four hours for four", easy(3, 3, 4, alike...), nil, api.OK, 2, api.OK},
		{"the vats that take less", easy(1, 3, 2, work(1, 2, 2), work(2, 1, 1), work(3, 2, 2), work(2, 1, 1)), list(2), api.OK, 0, api.ErrShort},
		{"one alone that takes most", easy(0, 3, 1, work(1, 1, 1), work(3, 1, 1), work(2, 1, 1)), list(1), api.OK, 0, api.ErrShort},
		{"the first of two that are as many", easy(0, 3, 1, work(1, 1, 1), work(2, 1, 1), work(2, 1, 1), work(1, 1, 1)), list(0, 1), api.OK, 0, api.ErrShort},
		{"two of four", easy(0, 3, 1, work(3, 1, 1), work(1, 1, 1), work(3, 1, 1), work(2, 1, 1)), list(0, 2), api.OK, 0, api.ErrShort},
		{"no vats", easy(2, 0, 0), nil, api.OK, 0, api.OK},
		{"no vats, and Men 9", easy(2, 9, 0), nil, api.OK, 0, api.ErrRange},
		{"without a truth", untrue(), nil, api.ErrFalse, 0, api.ErrFalse},
		{"without a truth, and Men 9", changed(untrue(), func(g *gang.Gang) { g.Men = 9 }), nil, api.ErrFalse, 0, api.ErrFalse},
		{"too many men", men(10), nil, api.ErrLimit, 0, api.ErrLimit},
		{"Men -1", men(-1), nil, api.ErrArg, 0, api.ErrArg},
	} {
		if l, e := gang.Left(x.g); !slices.Equal(l, x.left) || e != x.e {
			t.Errorf("%s: Left is %v, %v", x.name, l, e)
		}
		if n, e := gang.Worth(x.g); n != x.worth || e != x.f {
			t.Errorf("%s: Worth is %d, %v", x.name, n, e)
		}
	}
}

// P4.6
func TestLeftAndWorth(t *testing.T) {
	left, worth := 0, 0
	for _, g := range append(gangs(), two()) {
		want := wantLeft(g)
		if l, e := gang.Left(g); !slices.Equal(l, want) || e != api.OK {
			t.Errorf("Left of %v: %v, %v, not %v", g, l, e, want)
		}
		if len(want) > 0 && len(want) < len(g.Works) {
			left++
		}
		_, done, ok := wantBest(g)
		wanted := api.OK
		earlier := 0
		if ok {
			_, n, _ := wantBest(changed(g, func(g *gang.Gang) { g.Men++ }))
			earlier = done - n
		} else {
			wanted = api.ErrShort
		}
		if n, e := gang.Worth(g); n != earlier || e != wanted {
			t.Errorf("Worth of %v: %d, %v, not %d", g, n, e, earlier)
		}
		if earlier > 0 {
			worth++
		}
	}
	if left < 30 || worth < 5 {
		t.Errorf("only %d gangs leave vats, and one man more is worth something to %d: the gangs say too little", left, worth)
	}
}

// TestLargest asks all calls about the largest gang that is allowed.
func TestLargest(t *testing.T) {
	for _, g := range []gang.Gang{largest(), changed(largest(), func(g *gang.Gang) { g.Close = 7 })} {
		want, done, ok := wantBest(g)
		l, n, e := gang.Best(g)
		if !slices.Equal(l, want) || n != done || ok != (e == api.OK) {
			t.Errorf("Best: %v, %d, %v, not %v, %d", l, n, e, want, done)
		}
		fewest, ok := wantFewest(g)
		if n, e := gang.Fewest(g); n != fewest || ok != (e == api.OK) {
			t.Errorf("Fewest: %d, %v, not %d", n, e, fewest)
		}
		left := wantLeft(g)
		if l, e := gang.Left(g); !slices.Equal(l, left) || e != api.OK {
			t.Errorf("Left: %v, %v, not %v", l, e, left)
		}
		for _, plan := range [][]int{want, list(5, 5, 5, 5), list(0, 0, 0, 0), list(3, 2, 1, 0)} {
			if plan == nil {
				continue
			}
			hours := list(4, 4, 3, 2)
			due, f := wantPlay(g, plan, hours)
			if l, e := gang.Play(g, plan, hours); !slices.Equal(l, due) || e != f {
				t.Errorf("Play of %v: %v, %v, not %v, %v", plan, l, e, due, f)
			}
		}
	}
}
