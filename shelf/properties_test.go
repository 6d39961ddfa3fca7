package shelf_test

import (
	"slices"
	"testing"

	"anil/api"
	"anil/shelf"
)

// The promises P6.7 to P6.17, asked of package shelf alone.

// answered fails the test if a call that must have a result has an error instead.
func answered(t *testing.T, what string, l shelf.Loft, e api.Errno) {
	t.Helper()
	if e != api.OK {
		t.Fatalf("%s of %v: %v", what, l, e)
	}
}

func playOf(t *testing.T, l shelf.Loft, place []int, x shelf.Truth) [][]int {
	t.Helper()
	left, e := shelf.Play(l, place, x)
	answered(t, "Play", l, e)
	return left
}

func leftOf(t *testing.T, l shelf.Loft, place []int, of int) []shelf.Range {
	t.Helper()
	left, e := shelf.Left(l, place, of)
	answered(t, "Left", l, e)
	return left
}

func dryOf(t *testing.T, l shelf.Loft, place []int, of, day int) int {
	t.Helper()
	n, e := shelf.Dry(l, place, of, day)
	answered(t, "Dry", l, e)
	return n
}

// bestOf returns the best placement, and the day after which it is done; false if there is none.
func bestOf(t *testing.T, l shelf.Loft) (place []int, done int, ok bool) {
	t.Helper()
	place, done, e := shelf.Best(l)
	if e == api.ErrShort {
		return nil, 0, false
	}
	answered(t, "Best", l, e)
	return place, done, true
}

func leaveOf(t *testing.T, l shelf.Loft) []int {
	t.Helper()
	set, e := shelf.Leave(l)
	answered(t, "Leave", l, e)
	return set
}

// isGood reports whether the placement is good, as Stuck says it.
func isGood(t *testing.T, l shelf.Loft, place []int) bool {
	t.Helper()
	_, e := shelf.Stuck(l, place)
	if e == api.ErrNone {
		return true
	}
	answered(t, "Stuck", l, e)
	return false
}

// proved returns all truths of the loft, as ProveTruth finds them.
func proved(l shelf.Loft) (out []shelf.Truth) {
	for _, x := range allTruths(l) {
		if shelf.ProveTruth(l, x) {
			out = append(out, x)
		}
	}
	return out
}

// hasTruth reports whether the loft has a truth, as Best says it.
func hasTruth(l shelf.Loft) bool {
	_, _, e := shelf.Best(l)
	return e == api.OK || e == api.ErrShort
}

// trueLofts returns the lofts of the list that have a truth.
func trueLofts() (out []shelf.Loft) {
	for _, l := range append(lofts(), two(), put(1, 1), two(weight(1, 2, 0, 0))) {
		if len(truthsOf(l)) > 0 {
			out = append(out, l)
		}
	}
	return out
}

// placesOf returns all placements; of many of them only some.
func placesOf(l shelf.Loft) (out [][]int) {
	for i, place := range allPlaces(l) {
		if len(l.Cakes) < 4 || i%9 == 0 {
			out = append(out, place)
		}
	}
	return out
}

func isWithin(inner, outer shelf.Range) bool { return outer.Lo <= inner.Lo && inner.Hi <= outer.Hi }

// noneGreater reports whether no number of the other list is greater than that of the list one.
func noneGreater(one, other []int) bool {
	for i := range one {
		if other[i] > one[i] {
			return false
		}
	}
	return true
}

// P6.7
func TestInEachTruth(t *testing.T) {
	good := 0
	for _, l := range trueLofts() {
		truths := proved(l)
		if len(truths) == 0 {
			t.Fatalf("%v has a truth, but none is proved", l)
		}
		for _, place := range placesOf(l) {
			for i := range l.Cakes {
				inEachTruth(t, l, truths, place, i)
			}
			if isGood(t, l, place) {
				good++
				isDryInTime(t, l, truths, place)
			}
		}
		if set := leaveOf(t, l); len(set) > 0 {
			t.Errorf("%v: %v need not be left out", l, set)
		}
	}
	if good < 100 {
		t.Errorf("only %d placements are good: the lofts say too little", good)
	}
}

// inEachTruth checks what is said of the cake.
func inEachTruth(t *testing.T, l shelf.Loft, truths []shelf.Truth, place []int, of int) {
	t.Helper()
	bounds := leftOf(t, l, place, of)
	for k, day := range daysOf(l, of) {
		low, high, dry := false, false, 0
		for _, x := range truths {
			n, r := playOf(t, l, place, x)[of][k], bounds[k]
			if n < r.Lo || n > r.Hi {
				t.Errorf("%v, %v: after %d %d is left in %d, which is not within %v", l, place, day, n, of, r)
			}
			low, high = low || n == r.Lo, high || n == r.Hi
			if n == 0 {
				dry++
			}
		}
		if !low || !high {
			t.Errorf("%v, %v: after %d an end of %v is not reached", l, place, day, bounds[k])
		}
		v := dryOf(t, l, place, of, day)
		if (v == always) != (dry == len(truths)) || (v == never) != (dry == 0) || (v == perhaps) != (0 < dry && dry < len(truths)) {
			t.Errorf("%v, %v: after %d the cake %d is dry in %d truths of %d, but the verdict is %d", l, place, day, of, dry, len(truths), v)
		}
	}
}

// isDryInTime checks that with the placement no cake is wet any more after the day Come plus Keep less 1.
func isDryInTime(t *testing.T, l shelf.Loft, truths []shelf.Truth, place []int) {
	t.Helper()
	for _, x := range truths {
		for i, left := range playOf(t, l, place, x) {
			for k, n := range left {
				if k >= l.Cakes[i].Keep-1 && n > 0 {
					t.Errorf("%v, %v is good, but in %v the cake %d is wet after the day %d", l, place, x, i, l.Cakes[i].Come+k)
				}
			}
			if left[len(left)-1] > 0 {
				t.Errorf("%v, %v is good, but in %v the cake %d is wet at last", l, place, x, i)
			}
		}
	}
}

// P6.8
func TestDryStaysDry(t *testing.T) {
	dry := 0
	for _, l := range append(lofts(), two()) {
		for _, place := range placesOf(l) {
			for _, x := range allTruths(l) {
				for i, left := range playOf(t, l, place, x) {
					for k := 1; k < len(left); k++ {
						if left[k] > left[k-1] {
							t.Errorf("%v, %v, %v: more is left in the cake %d after a later day: %v", l, place, x, i, left)
						}
						if left[k-1] == 0 {
							dry++
						}
					}
				}
			}
			if !hasTruth(l) {
				continue
			}
			for i := range l.Cakes {
				for k, day := range daysOf(l, i) {
					if k > 0 && dryOf(t, l, place, i, day-1) == always && dryOf(t, l, place, i, day) != always {
						t.Errorf("%v, %v: the cake %d is dry after %d, but not after %d", l, place, i, day-1, day)
					}
				}
			}
		}
	}
	if dry < 1000 {
		t.Errorf("a cake is dry only %d times: the lofts say too little", dry)
	}
}

// P6.9
func TestDrier(t *testing.T) {
	drier := 0
	for _, l := range append(lofts(), two()) {
		all, places := allTruths(l), placesOf(l)
		for _, x := range all {
			left := playOf(t, l, l.Put, x)
			for _, y := range all {
				air := noneGreater(y.Air, x.Air) && slices.Equal(x.Water, y.Water)
				water := slices.Equal(x.Air, y.Air) && noneGreater(x.Water, y.Water)
				if !air && !water {
					continue
				}
				for i, other := range playOf(t, l, l.Put, y) {
					if !noneGreater(left[i], other) {
						t.Errorf("%v: more is left in %d in %v than in %v", l, i, y, x)
					}
					if !slices.Equal(left[i], other) {
						drier++
					}
				}
			}
			for _, place := range places {
				for i, other := range playOf(t, l, place, x) {
					if l.Shelves[place[i]].Draft >= l.Shelves[l.Put[i]].Draft && !noneGreater(left[i], other) {
						t.Errorf("%v, %v: more is left in %d on the shelf %d than on %d", l, x, i, place[i], l.Put[i])
					}
				}
			}
		}
	}
	if drier < 1000 {
		t.Errorf("less is left only %d times: the lofts say too little", drier)
	}
}

// P6.10
func TestNoBetterPlacement(t *testing.T) {
	tried := 0
	for _, l := range trueLofts() {
		best, done, ok := bestOf(t, l)
		for _, place := range allPlaces(l) {
			if !ok {
				if shelf.ProvePlace(l, place, l.Last) || isGood(t, l, place) {
					t.Errorf("%v has no best placement, but %v is good", l, place)
				}
				continue
			}
			if shelf.ProvePlace(l, place, done-1) {
				t.Errorf("%v: %v is done before %v", l, place, best)
			}
			is := shelf.ProvePlace(l, place, done)
			if is && slices.Compare(place, best) < 0 || slices.Equal(place, best) && !is {
				t.Errorf("%v: %v is done after %d: %v, but the best one is %v", l, place, done, is, best)
			}
			if is != (isGood(t, l, place) && isDoneBy(t, l, place, done)) {
				t.Errorf("%v: %v is proved: %v", l, place, is)
			}
			tried++
		}
	}
	if tried < 500 {
		t.Errorf("only %d placements are tried: the lofts say too little", tried)
	}
}

// isDoneBy reports whether all cakes have a sure day that is this day or before.
func isDoneBy(t *testing.T, l shelf.Loft, place []int, done int) bool {
	t.Helper()
	for i := range l.Cakes {
		day, e := shelf.Day(l, place, i)
		if e == api.ErrShort || day > done {
			return false
		}
		answered(t, "Day", l, e)
		if dryOf(t, l, place, i, day) != always || day > l.Cakes[i].Come && dryOf(t, l, place, i, day-1) == always {
			t.Errorf("%v, %v: %d is not the sure day of %d", l, place, day, i)
		}
	}
	return true
}

// P6.11
func TestByADay(t *testing.T) {
	before, after := 0, 0
	for _, l := range trueLofts() {
		best, done, ok := bestOf(t, l)
		for day := range l.Last + 1 {
			place, e := shelf.By(l, day)
			if ok && done <= day {
				answered(t, "By", l, e)
				after++
				if !shelf.ProvePlace(l, place, day) || day == done && !slices.Equal(place, best) || slices.Compare(place, best) > 0 {
					t.Errorf("By of %v, %d: %v, but the best one is %v, by %d", l, day, place, best, done)
				}
				continue
			}
			before++
			if e != api.ErrShort || place != nil {
				t.Errorf("By of %v, %d: %v, %v, but the best one is done after %d, if there is one: %v", l, day, place, e, done, ok)
			}
		}
	}
	if before < 100 || after < 100 {
		t.Errorf("%d days are before the best placement is done, and %d are not: the lofts say too little", before, after)
	}
}

// P6.12
func TestMore(t *testing.T) {
	stayed, earlier := 0, 0
	for _, l := range trueLofts() {
		var all []shelf.Loft
		for s, b := range l.Shelves {
			if b.Room < api.MaxShelfCakes {
				all = append(all, changed(l, func(l *shelf.Loft) { l.Shelves[s].Room++ }))
			}
			if b.Draft < api.MaxShelfDraft && len(l.Weights) == 0 {
				all = append(all, changed(l, func(l *shelf.Loft) { l.Shelves[s].Draft++ }))
			}
		}
		for i, c := range l.Cakes {
			if c.Keep < api.MaxShelfKeep {
				all = append(all, changed(l, func(l *shelf.Loft) { l.Cakes[i].Keep++ }))
			}
		}
		_, done, ok := bestOf(t, l)
		for _, z := range all {
			for _, place := range placesOf(l) {
				if isGood(t, l, place) {
					stayed++
					if !isGood(t, z, place) {
						t.Errorf("%v is good of %v, but not of %v", place, l, z)
					}
				}
			}
			_, n, is := bestOf(t, z)
			if ok && (!is || n > done) {
				t.Errorf("the best one of %v is done after %d, but of %v after %d", l, done, z, n)
			}
			if !ok && is || ok && n < done {
				earlier++
			}
		}
	}
	if stayed < 500 || earlier < 30 {
		t.Errorf("%d placements are good, and %d best ones earlier: the lofts say too little", stayed, earlier)
	}
}

// P6.13
func TestOneMoreWeight(t *testing.T) {
	for _, l := range append(lofts(), two(), untrue()) {
		if len(l.Weights) == api.MaxShelfWeights {
			continue
		}
		out := len(leaveOf(t, l))
		for i, x := range allWeights(l) {
			z := with(l, x)
			if more := len(leaveOf(t, z)); more < out || more > out+1 {
				t.Errorf("%v: with the weight %v %d are left out, not %d", l, x, more, out)
			}
			if i%3 == 0 {
				atLeast(t, l, z)
			}
		}
	}
}

// atLeast checks that of the loft z, which allows no more than l, all is known that is known of l.
func atLeast(t *testing.T, l, z shelf.Loft) {
	t.Helper()
	if !hasTruth(z) {
		return
	}
	if !hasTruth(l) {
		t.Errorf("%v has a truth, but %v has none", z, l)
		return
	}
	for n, place := range placesOf(l) {
		if len(l.Cakes) > 2 && n%4 > 0 { // some of the many
			continue
		}
		if isGood(t, l, place) && !isGood(t, z, place) {
			t.Errorf("%v is good of %v, but not of %v", place, l, z)
		}
		for i := range l.Cakes {
			wide, narrow := leftOf(t, l, place, i), leftOf(t, z, place, i)
			for k, day := range daysOf(l, i) {
				if !isWithin(narrow[k], wide[k]) {
					t.Errorf("%v, %v: %v is left in %d after %d, though %v of %v", z, place, narrow[k], i, day, wide[k], l)
				}
				if n, m := dryOf(t, l, place, i, day), dryOf(t, z, place, i, day); n != perhaps && n != m {
					t.Errorf("%v, %v: Dry of %d, %d is %d, though %d of %v", z, place, i, day, m, n, l)
				}
			}
		}
	}
	_, done, ok := bestOf(t, l)
	if _, n, is := bestOf(t, z); ok && (!is || n > done) {
		t.Errorf("the best one of %v is done after %d, but of %v after %d", l, done, z, n)
	}
}

// P6.14
func TestWider(t *testing.T) {
	fewer := 0
	for k, l := range append(lofts(), two(weight(1, 2, 0, 0)), untrue()) {
		var all []shelf.Loft
		widen := func(r shelf.Range, most int, set func(z *shelf.Loft, r shelf.Range)) {
			for i, w := range []shelf.Range{to(max(0, r.Lo-1), r.Hi), to(r.Lo, min(most, r.Hi+1)), to(max(0, r.Lo-1), min(most, r.Hi+1))} {
				if w != r && (k+i)%3 > 0 {
					all = append(all, changed(l, func(z *shelf.Loft) { set(z, w) }))
				}
			}
		}
		for day, r := range l.Air {
			widen(r, api.MaxShelfAir, func(z *shelf.Loft, r shelf.Range) { z.Air[day] = r })
		}
		for i, c := range l.Cakes {
			widen(c.Water, api.MaxShelfWater, func(z *shelf.Loft, r shelf.Range) { z.Cakes[i].Water = r })
		}
		for i, x := range l.Weights {
			widen(x.Water, api.MaxShelfWater, func(z *shelf.Loft, r shelf.Range) { z.Weights[i].Water = r })
		}
		out := len(leaveOf(t, l))
		for i, z := range all {
			more := len(leaveOf(t, z))
			if more > out {
				t.Errorf("%v: %d are left out, but of %v %d", z, more, l, out)
			}
			if more < out {
				fewer++
			}
			if i%2 == 0 || len(l.Cakes) < 3 {
				atLeast(t, z, l)
			}
		}
	}
	if fewer < 50 {
		t.Errorf("only %d times fewer are left out: the lofts say too little", fewer)
	}
}

// exchange returns the list with two of its numbers exchanged: where the one was the other one is, and the other way round.
func exchange(l []int, one, other int) []int {
	out := slices.Clone(l)
	for i, n := range l {
		switch n {
		case one:
			out[i] = other
		case other:
			out[i] = one
		}
	}
	return out
}

// P6.15
func TestShelvesExchanged(t *testing.T) {
	exchanged := 0
	for _, l := range append(lofts(), two(), two(weight(1, 2, 0, 0)), untrue()) {
		for one := range l.Shelves {
			for other := range one {
				z := changed(l, func(z *shelf.Loft) {
					z.Shelves[one], z.Shelves[other] = l.Shelves[other], l.Shelves[one]
					z.Put = exchange(l.Put, one, other)
				})
				bothSay(t, l, z, func(place []int) []int { return exchange(place, one, other) })
				exchanged++
			}
		}
	}
	if exchanged < 100 {
		t.Errorf("only %d shelves are exchanged: the lofts say too little", exchanged)
	}
}

// bothSay checks that the same is said of both lofts; rename says which placement of z is that of l.
func bothSay(t *testing.T, l, z shelf.Loft, rename func(place []int) []int) {
	t.Helper()
	if a, b := leaveOf(t, l), leaveOf(t, z); len(a) != len(b) {
		t.Errorf("Leave of %v: %v, but of %v: %v", l, a, z, b)
	}
	if !hasTruth(l) || !hasTruth(z) {
		if hasTruth(l) != hasTruth(z) {
			t.Errorf("%v or %v has a truth, but not both", l, z)
		}
		return
	}
	_, done, ok := bestOf(t, l)
	if _, n, is := bestOf(t, z); is != ok || n != done {
		t.Errorf("the best one of %v is done after %d (%v), but of %v after %d (%v)", l, done, ok, z, n, is)
	}
	for _, place := range placesOf(l) {
		other := rename(place)
		if isGood(t, l, place) != isGood(t, z, other) || shelf.ProvePlace(l, place, done) != shelf.ProvePlace(z, other, done) {
			t.Errorf("%v: %v is good, or %v of %v, but not both", l, place, other, z)
		}
		for i := range l.Cakes {
			day, e := shelf.Day(l, place, i)
			n, f := shelf.Day(z, other, i)
			if !slices.Equal(leftOf(t, l, place, i), leftOf(t, z, other, i)) || day != n || e != f {
				t.Errorf("Left, Day of %v, %v, %d are not those of %v, %v", l, place, i, z, other)
			}
		}
	}
}

// P6.16
func TestBeforeTheFirst(t *testing.T) {
	for _, l := range append(lofts(), untrue()) {
		n, e := shelf.First(l)
		if e == api.ErrNone {
			if !hasTruth(l) {
				t.Errorf("%v has no truth, and no first wrong weight", l)
			}
			continue
		}
		answered(t, "First", l, e)
		z := changed(l, func(l *shelf.Loft) { l.Weights = l.Weights[:n] })
		if !hasTruth(z) || len(proved(z)) == 0 {
			t.Errorf("%v: there is no truth before the weight %d", l, n)
		}
		z = with(z, l.Weights[n])
		if hasTruth(z) || len(proved(z)) > 0 {
			t.Errorf("%v: there is a truth with the weight %d", l, n)
		}
	}
}

// P6.17
func TestLeftOut(t *testing.T) {
	for _, l := range append(lofts(), untrue()) {
		out := leaveOf(t, l)
		sets := allSets(len(l.Weights))
		at := slices.IndexFunc(sets, func(set []int) bool { return slices.Equal(set, out) })
		if at < 0 {
			t.Errorf("%v: %v is no set of weights", l, out)
			continue
		}
		if z := without(l, out); !hasTruth(z) || len(proved(z)) == 0 {
			t.Errorf("%v: without %v there is no truth", l, out)
		}
		for _, set := range sets[:at] {
			if z := without(l, set); hasTruth(z) || len(proved(z)) > 0 {
				t.Errorf("%v: %v can be left out, and is before %v", l, set, out)
			}
		}
	}
}
