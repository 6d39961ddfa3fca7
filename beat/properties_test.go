package beat_test

import (
	"slices"
	"testing"

	"anil/api"
	"anil/beat"
)

// The promises P3.7 to P3.18, asked of package beat alone.

// answered fails the test if a call that must have a result has an error instead.
func answered(t *testing.T, what string, b beat.Beating, e api.Errno) {
	t.Helper()
	if e != api.OK {
		t.Fatalf("%s of %v: %v", what, b, e)
	}
}

func boundsOf(t *testing.T, b beat.Beating) []beat.Range {
	t.Helper()
	l, e := beat.Bounds(b)
	answered(t, "Bounds", b, e)
	return l
}

func doneOf(t *testing.T, b beat.Beating, in, hour int) int {
	t.Helper()
	n, e := beat.Done(b, in, hour)
	answered(t, "Done", b, e)
	return n
}

func lossesOf(t *testing.T, b beat.Beating, endings []int) beat.Range {
	t.Helper()
	r, e := beat.Losses(b, endings)
	answered(t, "Losses", b, e)
	return r
}

func bestOf(t *testing.T, b beat.Beating) ([]int, int) {
	t.Helper()
	l, n, e := beat.Best(b)
	answered(t, "Best", b, e)
	return l, n
}

// worstOf returns the worst loss of the best endings.
func worstOf(t *testing.T, b beat.Beating) int {
	t.Helper()
	_, n := bestOf(t, b)
	return n
}

func leaveOf(t *testing.T, b beat.Beating) []int {
	t.Helper()
	l, e := beat.Leave(b)
	answered(t, "Leave", b, e)
	return l
}

// lossOf returns the loss of the endings in the course, as Play says it.
func lossOf(t *testing.T, b beat.Beating, c beat.Course, endings []int) int {
	t.Helper()
	l, e := beat.Play(b, c, endings)
	answered(t, "Play", b, e)
	sum := 0
	for _, n := range l {
		sum += n
	}
	return sum
}

// proved returns all truths of the beating, as ProveTruth finds them.
func proved(b beat.Beating) (out []beat.Course) {
	for _, c := range allCourses(b) {
		if beat.ProveTruth(b, c) {
			out = append(out, c)
		}
	}
	return out
}

// hasTruth reports whether the beating has a truth, as Bounds says it.
func hasTruth(b beat.Beating) bool {
	_, e := beat.Bounds(b)
	return e == api.OK
}

// trueBeatings returns the beatings of the list that have a truth.
func trueBeatings() (out []beat.Beating) {
	for _, b := range append(beatings(), two(), two(not(0, 3))) {
		if len(truthsOf(b)) > 0 {
			out = append(out, b)
		}
	}
	return out
}

func isWithin(inner, outer beat.Range) bool { return outer.Lo <= inner.Lo && inner.Hi <= outer.Hi }

// reaches reports whether all numbers are in the range, and both its ends are among them.
func reaches(r beat.Range, numbers []int) bool {
	return len(numbers) > 0 && slices.Min(numbers) == r.Lo && slices.Max(numbers) == r.Hi
}

// P3.7
func TestInEachTruth(t *testing.T) {
	for _, b := range trueBeatings() {
		truths := proved(b)
		bounds := boundsOf(t, b)
		for v := range b.Vats {
			var all []int
			for _, c := range truths {
				all = append(all, doneIn(c, v))
			}
			if !reaches(bounds[v], all) {
				t.Errorf("%v: the vat %d is done at %v, but its bounds are %v", b, v, all, bounds[v])
			}
			for h := range b.Last + 1 {
				verdictIsSo(t, b, all, v, h)
			}
		}
		for _, endings := range allEndings(b) {
			var all []int
			for _, c := range truths {
				all = append(all, lossOf(t, b, c, endings))
			}
			if r := lossesOf(t, b, endings); !reaches(r, all) {
				t.Errorf("%v: with %v %v is lost, but the bounds are %v", b, endings, all, r)
			}
		}
		if l := leaveOf(t, b); len(l) > 0 {
			t.Errorf("%v: %v need not be left out", b, l)
		}
	}
}

// verdictIsSo checks the verdict of the vat, which is done at all these hours.
func verdictIsSo(t *testing.T, b beat.Beating, all []int, in, hour int) {
	t.Helper()
	v := doneOf(t, b, in, hour)
	isDone, isNot := hour >= slices.Min(all), hour < slices.Max(all)
	if (v == always) != !isNot || (v == never) != !isDone || (v == perhaps) != (isDone && isNot) {
		t.Errorf("%v: the vat %d is done at %v, but the verdict at %d is %d", b, in, all, hour, v)
	}
}

// P3.8
func TestFromAnHourOn(t *testing.T) {
	reached := 0
	for _, b := range trueBeatings() {
		for v, r := range boundsOf(t, b) {
			for h := range b.Last + 1 {
				n := doneOf(t, b, v, h)
				if h < b.Last {
					if next := doneOf(t, b, v, h+1); n == always && next != always || next == never && n != never {
						t.Errorf("%v: the vat %d is %d at %d, and %d at the hour after it", b, v, n, h, next)
					}
				}
				if h < r.Lo && n != never || h >= r.Hi && n != always {
					t.Errorf("%v: the vat %d is %d at %d, though its bounds are %v", b, v, n, h, r)
				}
				if h == r.Hi {
					reached++
				}
			}
		}
	}
	if reached < 50 {
		t.Errorf("only %d vats are done by Last: the beatings say too little", reached)
	}
}

// P3.9
func TestNoBetter(t *testing.T) {
	for _, b := range trueBeatings() {
		best, worst := bestOf(t, b)
		if n := lossesOf(t, b, best).Hi; n != worst {
			t.Errorf("%v: the worst loss of %v is %d, not %d", b, best, n, worst)
		}
		for _, endings := range allEndings(b) {
			n := lossesOf(t, b, endings).Hi
			if n < worst || n == worst && slices.Compare(endings, best) < 0 {
				t.Errorf("%v: the best endings are %v, with %d, but %v have %d", b, best, worst, endings, n)
			}
			if beat.ProveBest(b, endings, worst) != (n == worst) {
				t.Errorf("%v: ProveBest of %v, %d, though the worst loss is %d", b, endings, worst, n)
			}
		}
	}
}

// P3.10
func TestKnown(t *testing.T) {
	asked := 0
	for _, b := range append(beatings(), two()) {
		b.Samples = nil
		for _, c := range allCourses(b) {
			z := clone(b)
			z.Sun = to(c.Sun, c.Sun)
			lose, late := true, false
			var done []int
			for v, n := range c.Needs {
				z.Vats[v].Needs = to(n, n)
				lose = lose && z.Vats[v].Early > 0 && z.Vats[v].Late > 0
				done = append(done, doneIn(c, v))
				late = late || doneIn(c, v) > b.Last
			}
			if late {
				continue
			}
			asked++
			endings, worst := bestOf(t, z)
			if worst != 0 || lose && !slices.Equal(endings, done) {
				t.Errorf("%v: the best endings are %v, with %d, though all is known", z, endings, worst)
			}
		}
	}
	if asked < 500 {
		t.Errorf("only %d beatings are known, and done by Last", asked)
	}
}

// P3.11
func TestOneVat(t *testing.T) {
	for _, b := range append(trueBeatings(), largest(not(0, 2))) {
		worst, sum := worstOf(t, b), 0
		for v := range b.Vats {
			z := clone(b)
			for i := range z.Vats {
				if i != v {
					z.Vats[i].Early, z.Vats[i].Late = 0, 0
				}
			}
			alone := worstOf(t, z)
			if worst < alone {
				t.Errorf("%v: the worst loss is %d, but that of the vat %d alone %d", b, worst, v, alone)
			}
			sum += alone
		}
		if worst > sum {
			t.Errorf("%v: the worst loss is %d, but those of all vats alone are %d", b, worst, sum)
		}
	}
}

// P3.12
func TestBetterSample(t *testing.T) {
	for _, b := range trueBeatings() {
		if len(b.Vats) == 0 || len(b.Samples) == api.MaxBeatSamples {
			continue
		}
		in, hour, left, e := beat.Ask(b)
		answered(t, "Ask", b, e)
		if worst := worstOf(t, b); left > worst {
			t.Errorf("%v: the best sample leaves %d, but the best endings have %d", b, left, worst)
		}
		for v := range b.Vats {
			for h := range b.Last + 1 {
				most := 0
				for _, x := range []beat.Sample{is(v, h), not(v, h)} {
					if z := with(b, x); hasTruth(z) {
						most = max(most, worstOf(t, z))
					}
				}
				isBefore := v < in || v == in && h < hour
				if v == in && h == hour && most != left || most < left || isBefore && most == left {
					t.Errorf("Ask of %v: %d, %d, %d, but a sample of %d at %d leaves %d", b, in, hour, left, v, h, most)
				}
			}
		}
	}
}

// P3.13
func TestSmallerLosses(t *testing.T) {
	smaller := 0
	for _, b := range append(trueBeatings(), largest(not(0, 2))) {
		worst := worstOf(t, b)
		for v := range b.Vats {
			for _, late := range []bool{false, true} {
				z, was := clone(b), worst
				number := &z.Vats[v].Early
				if late {
					number = &z.Vats[v].Late
				}
				for *number > 0 {
					*number--
					n := worstOf(t, z)
					if n > was {
						t.Errorf("%v: the worst loss is %d, but with a greater Early or Late of %d %d", z, n, v, was)
					}
					if n < was {
						smaller++
					}
					was = n
				}
			}
		}
	}
	if smaller < 50 {
		t.Errorf("less is lost only %d times: the beatings say too little", smaller)
	}
}

// P3.14
func TestOneMoreSample(t *testing.T) {
	for _, b := range append(beatings(), two(), two(not(0, 3)), untrue()) {
		if len(b.Samples) == api.MaxBeatSamples {
			continue
		}
		out := len(leaveOf(t, b))
		for _, x := range allSamples(b) {
			z := with(b, x)
			if more := len(leaveOf(t, z)); more < out || more > out+1 {
				t.Errorf("%v: with the sample %v %d are left out, not %d", b, x, more, out)
			}
			atLeast(t, b, z)
		}
	}
}

// atLeast checks that of the beating z, which allows no more than b, all is known that is known of b.
func atLeast(t *testing.T, b, z beat.Beating) {
	t.Helper()
	if !hasTruth(z) {
		return
	}
	if !hasTruth(b) {
		t.Errorf("%v has a truth, but %v has none", z, b)
		return
	}
	wide, narrow := boundsOf(t, b), boundsOf(t, z)
	for v := range b.Vats {
		if !isWithin(narrow[v], wide[v]) {
			t.Errorf("%v: the bounds of %d are %v, though %v of %v", z, v, narrow[v], wide[v], b)
		}
		for h := range b.Last + 1 {
			if n, m := doneOf(t, b, v, h), doneOf(t, z, v, h); n != perhaps && n != m {
				t.Errorf("%v: Done of %d, %d is %d, though %d of %v", z, v, h, m, n, b)
			}
		}
	}
	if n, m := worstOf(t, b), worstOf(t, z); m > n {
		t.Errorf("%v: the worst loss is %d, though %d of %v", z, m, n, b)
	}
}

// P3.15
func TestWider(t *testing.T) {
	for _, b := range append(beatings(), two(not(0, 3)), untrue()) {
		var all []beat.Beating
		widen := func(r beat.Range, most int, set func(z *beat.Beating, r beat.Range)) {
			for _, w := range []beat.Range{to(max(0, r.Lo-1), r.Hi), to(r.Lo, min(most, r.Hi+1)), to(max(0, r.Lo-1), min(most, r.Hi+1))} {
				z := clone(b)
				set(&z, w)
				all = append(all, z)
			}
		}
		widen(b.Sun, api.MaxBeatSun, func(z *beat.Beating, r beat.Range) { z.Sun = r })
		for v, x := range b.Vats {
			widen(x.Needs, api.MaxBeatNeeds, func(z *beat.Beating, r beat.Range) { z.Vats[v].Needs = r })
		}
		out := len(leaveOf(t, b))
		for _, z := range all {
			if len(allCourses(z)) > api.MaxBeatTruths {
				continue
			}
			if more := len(leaveOf(t, z)); more > out {
				t.Errorf("%v: %d are left out, but of %v %d", z, more, b, out)
			}
			atLeast(t, z, b)
		}
	}
}

// P3.16
func TestAnHourMore(t *testing.T) {
	less := 0
	for _, b := range append(trueBeatings(), two()) {
		was := worstOf(t, b)
		for b.Last < api.MaxBeatLast {
			b.Last++
			n := worstOf(t, b)
			if n > was {
				t.Errorf("%v: the worst loss is %d, but with an hour less %d", b, n, was)
			}
			if n < was {
				less++
			}
			was = n
		}
	}
	if less < 20 {
		t.Errorf("less is lost only %d times: the beatings say too little", less)
	}
}

// P3.17
func TestBeforeTheFirst(t *testing.T) {
	for _, b := range append(beatings(), untrue()) {
		n, e := beat.First(b)
		if e == api.ErrNone {
			if !hasTruth(b) {
				t.Errorf("%v has no truth, and no first wrong sample", b)
			}
			continue
		}
		answered(t, "First", b, e)
		z := clone(b)
		z.Samples = z.Samples[:n]
		if !hasTruth(z) || len(proved(z)) == 0 {
			t.Errorf("%v: there is no truth before the sample %d", b, n)
		}
		z = with(z, b.Samples[n])
		if hasTruth(z) || len(proved(z)) > 0 {
			t.Errorf("%v: there is a truth with the sample %d", b, n)
		}
	}
}

// P3.18
func TestLeftOut(t *testing.T) {
	for _, b := range append(beatings(), untrue()) {
		l := leaveOf(t, b)
		sets := allSets(len(b.Samples))
		at := slices.IndexFunc(sets, func(set []int) bool { return slices.Equal(set, l) })
		if at < 0 {
			t.Errorf("%v: %v is no set of samples", b, l)
			continue
		}
		if z := without(b, l); !hasTruth(z) || len(proved(z)) == 0 {
			t.Errorf("%v: without %v there is no truth", b, l)
		}
		for _, set := range sets[:at] {
			if z := without(b, set); hasTruth(z) || len(proved(z)) > 0 {
				t.Errorf("%v: %v can be left out, and is before %v", b, set, l)
			}
		}
	}
}
