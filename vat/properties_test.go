package vat_test

import (
	"slices"
	"testing"

	"anil/api"
	"anil/vat"
)

// The promises P1.7 to P1.17, asked of package vat alone.

// answered fails the test if a call that must have a result has an error instead.
func answered(t *testing.T, what string, y vat.Yard, e api.Errno) {
	t.Helper()
	if e != api.OK {
		t.Fatalf("%s of %v: %v", what, y, e)
	}
}

func boundsOf(t *testing.T, y vat.Yard) []vat.Range {
	t.Helper()
	b, e := vat.Bounds(y)
	answered(t, "Bounds", y, e)
	return b
}

func fieldsOf(t *testing.T, y vat.Yard) []vat.Range {
	t.Helper()
	b, e := vat.Fields(y)
	answered(t, "Fields", y, e)
	return b
}

func moreOf(t *testing.T, y vat.Yard, one, other int) int {
	t.Helper()
	v, e := vat.More(y, one, other)
	answered(t, "More", y, e)
	return v
}

// needOf returns what Needs returns, and 10 if not even 9 bundles are enough.
func needOf(t *testing.T, y vat.Yard, in, field, blue int) int {
	t.Helper()
	n, e := vat.Needs(y, in, field, blue)
	if e == api.ErrShort {
		return 10
	}
	answered(t, "Needs", y, e)
	return n
}

func spreadOf(t *testing.T, y vat.Yard, field, many int) ([]int, int) {
	t.Helper()
	p, n, e := vat.Spread(y, field, many)
	answered(t, "Spread", y, e)
	return p, n
}

func leaveOf(t *testing.T, y vat.Yard) []int {
	t.Helper()
	l, e := vat.Leave(y)
	answered(t, "Leave", y, e)
	return l
}

// proved returns all truths, as ProveTruth finds them.
func proved(y vat.Yard) (out [][]int) {
	for _, b := range allBlues(y) {
		if vat.ProveTruth(y, b) {
			out = append(out, b)
		}
	}
	return out
}

// hasTruth reports whether the yard has a truth, as CheckYard and Bounds say it.
func hasTruth(y vat.Yard) bool {
	_, e := vat.Bounds(y)
	return e == api.OK
}

// trueYards returns the yards of the list that have a truth.
func trueYards() (out []vat.Yard) {
	for _, y := range yards() {
		if len(truthsOf(y)) > 0 {
			out = append(out, y)
		}
	}
	return out
}

func isWithin(inner, outer vat.Range) bool { return outer.Lo <= inner.Lo && inner.Hi <= outer.Hi }

// P1.7
func TestInEachTruth(t *testing.T) {
	for _, y := range trueYards() {
		b, f, truths := boundsOf(t, y), fieldsOf(t, y), proved(y)
		reached := map[[3]int]bool{}
		for _, blues := range truths {
			play, e := vat.Play(y, blues)
			answered(t, "Play", y, e)
			for v, n := range play {
				reached[[3]int{0, v, n}] = true
				if n < b[v].Lo || n > b[v].Hi {
					t.Errorf("%v: %d is not within %v", y, n, b[v])
				}
			}
			for i, n := range blues {
				reached[[3]int{1, i, n}] = true
				if n < f[i].Lo || n > f[i].Hi {
					t.Errorf("%v: %d is not within %v", y, n, f[i])
				}
			}
			inThisTruth(t, y, blues, play)
		}
		for kind, l := range [][]vat.Range{b, f} {
			for i, r := range l {
				if !reached[[3]int{kind, i, r.Lo}] || !reached[[3]int{kind, i, r.Hi}] {
					t.Errorf("%v: an end of %v is not reached", y, r)
				}
			}
		}
		if l := leaveOf(t, y); len(l) > 0 {
			t.Errorf("%v: %v need not be left out", y, l)
		}
	}
}

// inThisTruth checks what is said of all truths in one of them.
func inThisTruth(t *testing.T, y vat.Yard, blues, play []int) {
	t.Helper()
	for one := range play {
		for other := range play {
			if one == other {
				continue
			}
			v := moreOf(t, y, one, other)
			if v == vat.Always && play[one] <= play[other] || v == vat.Never && play[one] > play[other] {
				t.Errorf("%v: More of %d, %d is %d, but %v", y, one, other, v, play)
			}
		}
	}
	if len(play) == 0 {
		return
	}
	for f, blue := range blues {
		for v, n := range play {
			if need := needOf(t, y, v, f, 40); need < 10 && n+need*blue < 40 {
				t.Errorf("%v: the vat %d with %d bundles of %d has too little", y, v, need, f)
			}
		}
		put, least := spreadOf(t, y, f, 5)
		for v, n := range play {
			if n+put[v]*blue < least {
				t.Errorf("%v: the vat %d of the spread %v has less than %d", y, v, put, least)
			}
		}
	}
}

// P1.8
func TestMoreAndLess(t *testing.T) {
	for _, y := range trueYards() {
		more := map[[2]int]int{}
		for one := range y.Vats {
			for other := range y.Vats {
				if one != other {
					more[[2]int{one, other}] = moreOf(t, y, one, other)
				}
			}
		}
		for pair, v := range more {
			one, two := pair[0], pair[1]
			if v == vat.Always && more[[2]int{two, one}] != vat.Never {
				t.Errorf("%v: %d has more than %d always, and this one than it %d", y, one, two, more[[2]int{two, one}])
			}
			for three := range y.Vats {
				if v == vat.Always && more[[2]int{two, three}] == vat.Always && more[[2]int{one, three}] != vat.Always {
					t.Errorf("%v: %d, %d and %d have less and less, but not the last", y, one, two, three)
				}
			}
			fewer := false
			for f := range y.Fields {
				fewer = fewer || y.Vats[one][f] < y.Vats[two][f]
			}
			if !fewer && more[[2]int{two, one}] != vat.Never {
				t.Errorf("%v: %d has no fewer bundles than %d, and less", y, one, two)
			}
		}
	}
}

// P1.9
func TestSampled(t *testing.T) {
	for _, y := range trueYards() {
		if len(y.Vats) == 0 || len(y.Samples) == api.MaxVatSamples {
			continue
		}
		best, left, e := vat.Ask(y)
		answered(t, "Ask", y, e)
		for v := range y.Vats {
			most := 0
			for _, blues := range proved(y) {
				n := blueOf(y, blues, v)
				most = max(most, len(proved(with(y, sample(v, n, n)))))
			}
			if v == best && most != left || most < left || v < best && most == left {
				t.Errorf("Ask of %v: %d, %d, but a sample of %d leaves %d", y, best, left, v, most)
			}
		}
	}
}

// P1.10
func TestNeeded(t *testing.T) {
	for _, y := range trueYards() {
		truths := proved(y)
		for v := range y.Vats {
			for f := range y.Fields {
				last := 0
				for blue := 0; blue < 90; blue += 3 {
					n := needOf(t, y, v, f, blue)
					if n < last {
						t.Errorf("%v: for %d the vat %d needs %d of %d, but for less %d", y, blue, v, n, f, last)
					}
					last = n
					if n > 0 && leastWith(y, truths, f, v, n-1) >= blue {
						t.Errorf("%v: for %d the vat %d needs less than %d of %d", y, blue, v, n, f)
					}
				}
			}
		}
	}
}

// P1.11
func TestNoBetterSpread(t *testing.T) {
	for i, y := range trueYards() {
		if len(y.Vats) == 0 {
			continue
		}
		for f := range y.Fields {
			last := -1
			for many := range 10 {
				put, least := spreadOf(t, y, f, many)
				if least < last {
					t.Errorf("%v: with %d bundles of %d the least blue is %d, but with one fewer %d", y, many, f, least, last)
				}
				last = least
				if !vat.ProveSpread(y, f, put, least) {
					t.Errorf("%v: %v has less than %d", y, put, least)
				}
				if many > 4 && i%8 != 0 { // each spread of many bundles is tried for some yards alone
					continue
				}
				for _, p := range allPuts(len(y.Vats), many) {
					if vat.ProveSpread(y, f, p, least+1) || vat.ProveSpread(y, f, p, least) && slices.Compare(p, put) < 0 {
						t.Errorf("%v: %v is better than %v with %d", y, p, put, least)
					}
				}
			}
		}
	}
}

// P1.12
func TestOneMoreBundle(t *testing.T) {
	for _, y := range yards() {
		y.Samples = nil
		b := boundsOf(t, y)
		for v := range y.Vats {
			for f, r := range y.Fields {
				z := clone(y)
				z.Vats[v][f]++
				want := slices.Clone(b)
				want[v] = to(b[v].Lo+r.Lo, b[v].Hi+r.Hi)
				if c := boundsOf(t, z); !slices.Equal(c, want) {
					t.Errorf("%v: one more bundle of %d in %d makes %v of %v", y, f, v, c, b)
				}
			}
		}
	}
}

// P1.13
func TestExchanged(t *testing.T) {
	for _, y := range yards() {
		for f := 1; f < len(y.Fields); f++ {
			z := clone(y)
			z.Fields[0], z.Fields[f] = z.Fields[f], z.Fields[0]
			for _, l := range z.Vats {
				l[0], l[f] = l[f], l[0]
			}
			sameAnswers(t, y, z)
			for _, blues := range allBlues(y) {
				p, _ := vat.Play(y, blues)
				blues[0], blues[f] = blues[f], blues[0]
				if q, e := vat.Play(z, blues); !slices.Equal(p, q) || e != api.OK {
					t.Errorf("%v: with exchanged fields %v is %v, %v", y, p, q, e)
				}
			}
		}
		for v := 1; v < len(y.Vats); v++ {
			z := clone(y)
			z.Vats[0], z.Vats[v] = z.Vats[v], z.Vats[0]
			for i, s := range z.Samples {
				switch s.Vat {
				case 0:
					z.Samples[i].Vat = v
				case v:
					z.Samples[i].Vat = 0
				}
			}
			b, e := vat.Bounds(y)
			c, f := vat.Bounds(z)
			if len(b) > 0 {
				b[0], b[v] = b[v], b[0]
			}
			if !slices.Equal(b, c) || e != f {
				t.Errorf("%v: with exchanged vats %v, %v is %v, %v", y, b, e, c, f)
			}
		}
	}
}

// sameAnswers checks that two yards with other fields have the same bounds of vats, and the same wrong samples.
func sameAnswers(t *testing.T, y, z vat.Yard) {
	t.Helper()
	b, e := vat.Bounds(y)
	c, f := vat.Bounds(z)
	l, g := vat.Leave(y)
	m, h := vat.Leave(z)
	if !slices.Equal(b, c) || e != f || !slices.Equal(l, m) || g != h {
		t.Errorf("%v: with exchanged fields %v, %v, %v is %v, %v, %v", y, b, e, l, c, f, m)
	}
}

// P1.14
func TestOneMoreSample(t *testing.T) {
	d := &dice{state: 11}
	for _, y := range yards() {
		if len(y.Vats) == 0 || len(y.Samples) == api.MaxVatSamples {
			continue
		}
		for range 4 {
			v := d.roll(0, len(y.Vats)-1)
			n := blueOf(y, allBlues(y)[0], v) + d.roll(0, 9)
			z := with(y, sample(v, n, n+d.roll(0, 3)))
			atLeast(t, y, z)
			if out, more := len(leaveOf(t, y)), len(leaveOf(t, z)); more < out || more > out+1 {
				t.Errorf("%v: with one more sample %d are left out, not %d", z, more, out)
			}
		}
	}
}

// atLeast checks that of the yard z, which allows no more than y, all is known that is known of y.
func atLeast(t *testing.T, y, z vat.Yard) {
	t.Helper()
	if !hasTruth(z) {
		return
	}
	b, c := boundsOf(t, y), boundsOf(t, z)
	for v := range b {
		if !isWithin(c[v], b[v]) {
			t.Errorf("%v: %v, though %v in %v", z, c[v], b[v], y)
		}
	}
	f, g := fieldsOf(t, y), fieldsOf(t, z)
	for i := range f {
		if !isWithin(g[i], f[i]) {
			t.Errorf("%v: %v, though %v in %v", z, g[i], f[i], y)
		}
	}
	for one := range y.Vats {
		for other := range y.Vats {
			if one == other {
				continue
			}
			if v, w := moreOf(t, y, one, other), moreOf(t, z, one, other); v != vat.Perhaps && v != w {
				t.Errorf("%v: More of %d, %d is %d, though %d in %v", z, one, other, w, v, y)
			}
		}
	}
	for f := range y.Fields {
		for v := range y.Vats {
			for _, blue := range list(5, 17, 31, 60) {
				if n, m := needOf(t, y, v, f, blue), needOf(t, z, v, f, blue); m > n {
					t.Errorf("%v: %d needs %d of %d for %d, though %d in %v", z, v, m, f, blue, n, y)
				}
			}
		}
		for _, many := range list(0, 3, 8) {
			_, n := spreadOf(t, y, f, many)
			if _, m := spreadOf(t, z, f, many); m < n {
				t.Errorf("%v: the least blue is %d, though %d in %v", z, m, n, y)
			}
		}
	}
}

// P1.15
func TestWider(t *testing.T) {
	for _, y := range yards() {
		var all []vat.Yard
		for f, r := range y.Fields {
			for _, w := range []vat.Range{to(max(0, r.Lo-1), r.Hi), to(r.Lo, r.Hi+1), to(max(0, r.Lo-2), r.Hi+2)} {
				z := clone(y)
				z.Fields[f] = w
				all = append(all, z)
			}
		}
		for i, s := range y.Samples {
			for _, w := range []vat.Range{to(max(0, s.Blue.Lo-1), s.Blue.Hi), to(s.Blue.Lo, s.Blue.Hi+1), to(max(0, s.Blue.Lo-5), s.Blue.Hi+5)} {
				z := clone(y)
				z.Samples[i].Blue = w
				all = append(all, z)
			}
		}
		if len(y.Vats) == 0 {
			continue
		}
		out := len(leaveOf(t, y))
		for _, z := range all {
			if more := len(leaveOf(t, z)); more > out {
				t.Errorf("%v: %d are left out, but of %v %d", z, more, y, out)
			}
			atLeast(t, z, y)
		}
	}
}

// P1.16
func TestBeforeTheFirst(t *testing.T) {
	for _, y := range yards() {
		n, e := vat.First(y)
		if e == api.ErrNone {
			if !hasTruth(y) {
				t.Errorf("%v has no truth, and no first wrong sample", y)
			}
			continue
		}
		answered(t, "First", y, e)
		z := clone(y)
		z.Samples = z.Samples[:n]
		if !hasTruth(z) {
			t.Errorf("%v: there is no truth before the sample %d", y, n)
		}
		if hasTruth(with(z, y.Samples[n])) || len(proved(with(z, y.Samples[n]))) > 0 {
			t.Errorf("%v: there is a truth with the sample %d", y, n)
		}
	}
}

// P1.17
func TestLeftOut(t *testing.T) {
	for _, y := range yards() {
		l := leaveOf(t, y)
		for _, set := range allSets(len(y.Samples)) {
			if slices.Equal(set, l) {
				if !hasTruth(without(y, set)) {
					t.Errorf("%v: without %v there is no truth", y, set)
				}
				break
			}
			if hasTruth(without(y, set)) {
				t.Errorf("%v: %v can be left out, and is before %v", y, set, l)
			}
		}
		if !slices.ContainsFunc(allSets(len(y.Samples)), func(set []int) bool { return slices.Equal(set, l) }) {
			t.Errorf("%v: %v is no set of samples", y, l)
		}
	}
}
