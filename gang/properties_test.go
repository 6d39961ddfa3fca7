package gang_test

import (
	"slices"
	"testing"

	"anil/api"
	"anil/gang"
	"anil/steep"
)

// The promises P4.7 to P4.16, asked of packages gang and steep alone.

// answered fails the test if a call that must have a result has an error instead.
func answered(t *testing.T, what string, g gang.Gang, e api.Errno) {
	t.Helper()
	if e != api.OK {
		t.Fatalf("%s of %v: %v", what, g, e)
	}
}

// bestOf returns the best plan, and when it is done; false if there is none.
func bestOf(t *testing.T, g gang.Gang) ([]int, int, bool) {
	t.Helper()
	l, n, e := gang.Best(g)
	if e == api.ErrShort {
		return nil, 0, false
	}
	answered(t, "Best", g, e)
	return l, n, true
}

func leftOf(t *testing.T, g gang.Gang) []int {
	t.Helper()
	l, e := gang.Left(g)
	answered(t, "Left", g, e)
	return l
}

// proved returns all sure plans, as ProvePlan finds them.
func proved(g gang.Gang) (out [][]int) {
	for _, plan := range allPlans(g) {
		if gang.ProvePlan(g, plan, 99) {
			out = append(out, plan)
		}
	}
	return out
}

// truthsOf returns all truths of the gang's steep, as package steep finds them.
func truthsOf(g gang.Gang) (out []steep.Truth) {
	var all []gang.Range
	for _, r := range g.Steep.Warm {
		all = append(all, gang.Range(r))
	}
	for _, v := range g.Steep.Vats {
		all = append(all, gang.Range(v.Full))
	}
	hours := len(g.Steep.Warm)
	for spoil := g.Steep.Spoil.Lo; spoil <= g.Steep.Spoil.Hi; spoil++ {
		for _, l := range allChoices(all) {
			if x := (steep.Truth{Warm: l[:hours], Spoil: spoil, Full: l[hours:]}); steep.ProveTruth(g.Steep, x) {
				out = append(out, x)
			}
		}
	}
	return out
}

// P4.7
func TestInEachTruth(t *testing.T) {
	for _, g := range append(gangs(), two()) {
		truths := truthsOf(g)
		if len(truths) == 0 {
			t.Fatalf("%v has no truth", g)
		}
		for _, plan := range proved(g) {
			for _, x := range truths {
				_, kinds, e := steep.Play(g.Steep, x)
				answered(t, "Play", g, e)
				for v, hour := range plan {
					if kinds[v][hour-g.Steep.Vats[v].Begin] != ripe {
						t.Errorf("%v, %v: the vat %d is not ripe after %d", g, x, v, hour)
					}
				}
			}
			for _, hours := range allHours(g) {
				men, e := gang.Play(g, plan, hours)
				answered(t, "Play", g, e)
				if len(men) > 0 && slices.Max(men) > g.Men {
					t.Errorf("%v: with %v and %v %v are at work", g, plan, hours, men)
				}
			}
		}
	}
}

// P4.7
func TestWithinBusy(t *testing.T) {
	for _, g := range append(gangs(), two()) {
		for i, plan := range allPlans(g) {
			if i%3 > 0 && len(g.Works) > 2 { // a third of the many
				continue
			}
			busy, e := gang.Busy(g, plan)
			if e == api.ErrFail {
				continue
			}
			answered(t, "Busy", g, e)
			var all [][]int
			for _, hours := range allHours(g) {
				men, e := gang.Play(g, plan, hours)
				answered(t, "Play", g, e)
				all = append(all, men)
			}
			if !slices.Equal(ends(all), busy) {
				t.Errorf("%v: with %v %v are at work, but Busy is %v", g, plan, ends(all), busy)
			}
		}
	}
}

// P4.8
func TestNothingIsLost(t *testing.T) {
	for _, g := range append(gangs(), two()) {
		for i, plan := range allPlans(g) {
			if i%3 > 0 && len(g.Works) > 2 { // a third of the many
				continue
			}
			for _, hours := range allHours(g) {
				men, e := gang.Play(g, plan, hours)
				if e == api.ErrFail {
					continue
				}
				answered(t, "Play", g, e)
				sum := 0
				for _, n := range men {
					sum += n
				}
				for v, x := range g.Works {
					sum -= x.Men * hours[v]
				}
				if sum != 0 {
					t.Errorf("%v: with %v and %v %v are at work, which is %d too many", g, plan, hours, men, sum)
				}
			}
		}
	}
}

// P4.9
func TestNoBetterPlan(t *testing.T) {
	for _, g := range append(gangs(), two()) {
		best, done, ok := bestOf(t, g)
		if !ok {
			if l := proved(g); len(l) > 0 {
				t.Errorf("%v has no best plan, but %v are sure", g, l)
			}
			continue
		}
		if !gang.ProvePlan(g, best, done) {
			t.Errorf("%v: the best plan %v is not a sure one that is done in %d", g, best, done)
		}
		for _, plan := range allPlans(g) {
			if gang.ProvePlan(g, plan, done-1) || gang.ProvePlan(g, plan, done) && slices.Compare(plan, best) < 0 {
				t.Errorf("%v: %v is better than %v, which is done in %d", g, plan, best, done)
			}
		}
	}
}

// P4.10
func TestTheFewest(t *testing.T) {
	for _, g := range append(gangs(), two()) {
		fewest, e := gang.Fewest(g)
		if e == api.ErrShort {
			fewest = 10
		} else {
			answered(t, "Fewest", g, e)
		}
		for g.Men = range 10 {
			_, _, ok := bestOf(t, g)
			if ok != (g.Men >= fewest) || ok != (len(proved(g)) > 0) {
				t.Errorf("%v: there is a sure plan: %v, but the fewest men are %d", g, ok, fewest)
			}
			if n, f := gang.Fewest(g); f != e || f == api.OK && n != fewest {
				t.Errorf("%v: the fewest men are %d, %v, but with other Men %d, %v", g, n, f, fewest, e)
			}
		}
	}
}

// found is what the calls find for a gang.
type found struct {
	in   gang.Gang
	sure [][]int
	done int // 99, if there is no sure plan
	left int
}

func findAll(t *testing.T, g gang.Gang) found {
	t.Helper()
	out := found{g, proved(g), 99, len(leftOf(t, g))}
	if _, n, ok := bestOf(t, g); ok {
		out.done = n
	}
	return out
}

// noWorse checks that what was found to be sure and done is so with the gang, too.
func noWorse(t *testing.T, was found, g gang.Gang) {
	t.Helper()
	for _, plan := range was.sure {
		if !gang.ProvePlan(g, plan, 99) {
			t.Errorf("%v: %v is sure, but with %v it is not", was.in, plan, g)
		}
	}
	if _, n, ok := bestOf(t, g); was.done < 99 && (!ok || n > was.done) {
		t.Errorf("%v: the best plan is done in %d, but of %v in %d", was.in, was.done, g, n)
	}
	if l := leftOf(t, g); len(l) > was.left {
		t.Errorf("%v: %d must be left, but of %v %v", was.in, was.left, g, l)
	}
}

// P4.11
func TestMore(t *testing.T) {
	for _, g := range append(gangs(), two()) {
		was := findAll(t, g)
		if g.Men < api.MaxGangMen {
			noWorse(t, was, changed(g, func(g *gang.Gang) { g.Men++ }))
			if n, e := gang.Worth(g); n < 0 || e != api.OK && e != api.ErrShort {
				t.Errorf("%v: one man more is worth %d, %v", g, n, e)
			}
		}
		if g.Close < api.MaxGangClose {
			noWorse(t, was, changed(g, func(g *gang.Gang) { g.Close++ }))
		}
		for v, x := range g.Works {
			if x.Hours.Lo < x.Hours.Hi {
				noWorse(t, was, changed(g, func(g *gang.Gang) { g.Works[v].Hours.Hi-- }))
			}
		}
	}
}

// P4.12
func TestLeftOut(t *testing.T) {
	for _, g := range append(gangs(), two(), men(2)) {
		l, r := leftOf(t, g), ripenessOf(g)
		if _, _, ok := bestOf(t, g); ok != (len(l) == 0) {
			t.Errorf("%v has a sure plan: %v, but %v must be left", g, ok, l)
		}
		sets := allSets(len(g.Works))
		at := slices.IndexFunc(sets, func(set []int) bool { return slices.Equal(set, l) })
		if at < 0 {
			t.Errorf("%v: %v is no set of vats", g, l)
			continue
		}
		if !canBeLeft(g, r, l) {
			t.Errorf("%v: without %v there is no sure plan", g, l)
		}
		for _, set := range sets[:at] {
			if canBeLeft(g, r, set) {
				t.Errorf("%v: %v can be left, and is before %v", g, set, l)
			}
		}
	}
}

// P4.13
func TestKnownBetter(t *testing.T) {
	earlier := 0
	for _, g := range append(gangs(), two(), men(2)) {
		was := findAll(t, g)
		for v, x := range g.Steep.Vats {
			for h := x.Begin; h <= g.Steep.Last; h++ {
				for kind := raw; kind <= spoiled; kind++ {
					z := with(g, smell(v, h, kind))
					if !hasTruth(z) {
						continue
					}
					noWorse(t, was, z)
					if len(leftOf(t, z)) < was.left {
						earlier++
					}
				}
			}
		}
	}
	if earlier < 20 {
		t.Errorf("a smell helps only %d times: the gangs say too little", earlier)
	}
}

// P4.14
func TestExchanged(t *testing.T) {
	for _, g := range append(gangs(), two(smell(0, 1, ripe), smell(1, 2, ripe))) {
		for one := range g.Works {
			for other := range one {
				z := exchanged(g, one, other)
				_, n, e := gang.Best(g)
				_, m, f := gang.Best(z)
				if n != m || e != f {
					t.Errorf("%v: the best plan is done in %d, %v, but with %d and %d exchanged in %d, %v", g, n, e, one, other, m, f)
				}
				if l, k := leftOf(t, g), leftOf(t, z); len(l) != len(k) {
					t.Errorf("%v: %v must be left, but with %d and %d exchanged %v", g, l, one, other, k)
				}
			}
		}
	}
}

// exchanged returns the gang with the numbers of two vats exchanged.
func exchanged(g gang.Gang, one, other int) gang.Gang {
	return changed(g, func(g *gang.Gang) {
		g.Steep.Vats[one], g.Steep.Vats[other] = g.Steep.Vats[other], g.Steep.Vats[one]
		g.Works[one], g.Works[other] = g.Works[other], g.Works[one]
		for i, x := range g.Steep.Smells {
			switch x.Vat {
			case one:
				g.Steep.Smells[i].Vat = other
			case other:
				g.Steep.Smells[i].Vat = one
			}
		}
	})
}

// P4.15
func TestNothingToDo(t *testing.T) {
	yes, no := 0, 0
	for _, g := range append(gangs(), two()) {
		idle := changed(g, func(g *gang.Gang) {
			for v := range g.Works {
				g.Works[v].Men = 0
			}
		})
		want := true
		for v, x := range g.Works {
			good, e := steep.Good(g.Steep, v)
			// The longest work is over by Close, or there is none.
			want = want && e == api.OK && (good.Lo+x.Hours.Hi <= g.Close || x.Hours.Hi == 0)
		}
		if want {
			yes++
		} else {
			no++
		}
		for idle.Men = range 3 {
			if _, _, ok := bestOf(t, idle); ok != want {
				t.Errorf("%v: there is a sure plan: %v", idle, ok)
			}
		}
		for v, x := range g.Works {
			if x.Hours.Hi == 0 {
				continue
			}
			z := changed(idle, func(g *gang.Gang) { g.Men, g.Works[v].Men = 4, 5 })
			if _, _, ok := bestOf(t, z); ok {
				t.Errorf("%v: there is a sure plan, though the work %d has too many men", z, v)
			}
		}
	}
	if yes < 50 || no < 50 {
		t.Errorf("%d gangs that have nothing to do have a sure plan, and %d have none: they say too little", yes, no)
	}
}

// P4.16
func TestAllBeforeTheLate(t *testing.T) {
	for _, g := range append(gangs(), two()) {
		for _, plan := range allPlans(g) {
			late, e := gang.Late(g, plan)
			if e == api.ErrNone {
				late = len(plan)
			} else {
				answered(t, "Late", g, e)
			}
			for v, hour := range plan[:min(late+1, len(plan))] {
				if steep.ProveGood(g.Steep, v, hour) != (v < late) {
					t.Errorf("%v: with %v the vat %d is late, but what of %d?", g, plan, late, v)
				}
			}
		}
	}
}
