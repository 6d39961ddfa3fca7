package vat_test

import (
	"math"
	"slices"
	"testing"

	"anil/api"
	"anil/vat"
)

// The promises P1.1 to P1.6: the chapter's examples, the edges, and all yards of the list against what the chapter defines.

// P1.1
func TestCheckYard(t *testing.T) {
	if s := api.ErrFalse.Error(); s != "blue 11" {
		t.Errorf("the error is %q", s)
	}
	for _, x := range []struct {
		name string
		want api.Errno
		y    vat.Yard
	}{
		{"nothing", api.OK, vat.Yard{}},
		{"the largest yard", api.OK, largest(sample(0, 0, 999), sample(1, 0, 0), sample(2, 999, 999), sample(3, 1, 2), sample(3, 1, 2))},
		{"without a truth", api.OK, untrue()},
		{"a vat without leaves of no fields", api.OK, vat.Yard{Vats: [][]int{nil, {}}, Samples: []vat.Sample{sample(1, 0, 0)}}},
		{"6 fields", api.ErrLimit, vat.Yard{Fields: make([]vat.Range, 6)}},
		{"5 vats", api.ErrLimit, vat.Yard{Vats: make([][]int, 5)}},
		{"6 samples", api.ErrLimit, three(make([]vat.Sample, 6)...)},
		{"6 samples, one not valid", api.ErrLimit, three(append(make([]vat.Sample, 5), sample(-1, 2, 1))...)},
		{"6 fields, one not valid", api.ErrLimit, vat.Yard{Fields: ranges(2, 1, 0, 0, 0, 0, 0, 0, 0, 0, 0, 0)}},
		{"5 vats, of another length", api.ErrLimit, vat.Yard{Fields: ranges(1, 1), Vats: make([][]int, 5)}},
		{"2000 blues", api.OK, vat.Yard{Fields: ranges(0, 19, 1, 10, 2, 11)}},
		{"2002 blues", api.ErrLimit, vat.Yard{Fields: ranges(0, 13, 0, 10, 8, 20)}},
		{"2100 blues, and a bad sample", api.ErrArg, vat.Yard{Fields: ranges(0, 20, 0, 19, 0, 4), Samples: []vat.Sample{sample(0, 0, 0)}}},
		{"all blues of 5 fields", api.ErrLimit, vat.Yard{Fields: ranges(0, 20, 0, 20, 0, 20, 0, 20, 0, 20)}},
	} {
		if e := vat.CheckYard(x.y); e != x.want {
			t.Errorf("%s: %v", x.name, e)
		}
	}
}

// P1.1: TestCheckParts changes one number of a yard at a time, to both sides of its limits.
func TestCheckParts(t *testing.T) {
	for _, r := range []struct {
		r         vat.Range
		isField   bool
		isSampled bool
	}{
		{to(0, 0), true, true}, {to(20, 20), true, true}, {to(0, 20), true, true}, {to(19, 21), false, true}, {to(21, 21), false, true}, {to(-1, 3), false, false}, {to(-2, -1), false, false}, {to(4, 3), false, false}, {to(1, 0), false, false},
		{to(999, 999), false, true}, {to(0, 999), false, true}, {to(0, 1000), false, false}, {to(1000, 1000), false, false}, {to(999, 998), false, false},
		{to(math.MinInt, math.MaxInt), false, false}, {to(math.MaxInt, math.MinInt), false, false}, {to(0, math.MaxInt), false, false}, {to(math.MinInt, 0), false, false}, {to(math.MaxInt, math.MaxInt), false, false}, {to(math.MinInt, math.MinInt), false, false},
	} {
		for f := range 3 {
			y := three(sample(0, 1, 2))
			y.Fields[f] = r.r
			checks(t, y, r.isField)
		}
		for s := range 3 {
			y := three(sample(0, 1, 2), sample(1, 1, 2), sample(2, 1, 2))
			y.Samples[s].Blue = r.r
			checks(t, y, r.isSampled)
		}
	}
	for _, n := range []struct {
		n         int
		isBundles bool
		isVat     bool
	}{{0, true, true}, {2, true, true}, {3, true, false}, {9, true, false}, {10, false, false}, {-1, false, false}, {math.MaxInt, false, false}, {math.MinInt, false, false}} {
		for v := range 3 {
			for f := range 3 {
				y := three()
				y.Vats[v][f] = n.n
				checks(t, y, n.isBundles)
			}
		}
		for s := range 2 {
			y := three(sample(0, 1, 2), sample(1, 1, 2))
			y.Samples[s].Vat = n.n
			checks(t, y, n.isVat)
		}
	}
	for _, l := range [][]int{nil, {}, {1}, {1, 1}, {1, 1, 1, 1}, make([]int, 9)} {
		for v := range 3 {
			y := three()
			y.Vats[v] = l
			checks(t, y, false)
		}
	}
}

func checks(t *testing.T, y vat.Yard, valid bool) {
	t.Helper()
	want := api.ErrArg
	if valid {
		want = api.OK
	}
	if e := vat.CheckYard(y); e != want {
		t.Errorf("CheckYard of %v: %v", y, e)
	}
}

// P1.1
func TestPlay(t *testing.T) {
	for _, x := range []struct {
		name  string
		y     vat.Yard
		blues []int
		want  []int
		truth bool
		e     api.Errno
	}{
		{"the example", three(), list(4, 2, 1), list(18, 10, 13), true, api.OK},
		{"the lowest blues", three(), list(3, 2, 0), list(12, 9, 10), true, api.OK},
		{"the highest blues", three(), list(5, 3, 1), list(22, 14, 17), true, api.OK},
		{"a sample that is right", three(sample(0, 18, 18)), list(4, 2, 1), list(18, 10, 13), true, api.OK},
		{"at the ends of samples", three(sample(0, 18, 20), sample(0, 10, 18)), list(4, 2, 1), list(18, 10, 13), true, api.OK},
		{"a sample that is too high", three(sample(0, 19, 20)), list(4, 2, 1), list(18, 10, 13), false, api.OK},
		{"a sample that is too low", three(sample(0, 10, 17)), list(4, 2, 1), list(18, 10, 13), false, api.OK},
		{"the last one of samples is false", three(sample(0, 18, 18), sample(1, 10, 10), sample(2, 12, 12)), list(4, 2, 1), list(18, 10, 13), false, api.OK},
		{"without a truth", untrue(), list(4, 2, 1), list(18, 10, 13), false, api.OK},
		{"nothing", vat.Yard{}, nil, nil, true, api.OK},
		{"no vats", vat.Yard{Fields: ranges(1, 2)}, list(2), nil, true, api.OK},
		{"no fields", vat.Yard{Vats: make([][]int, 2)}, list(), list(0, 0), true, api.OK},
		{"the largest yard", largest(), list(19, 20, 10, 20, 0), list(621, 109, 230, 147), true, api.OK},
		{"below a range", three(), list(4, 1, 1), nil, false, api.ErrRange},
		{"above a range", three(), list(6, 2, 1), nil, false, api.ErrRange},
		{"above the last range", three(), list(4, 2, 2), nil, false, api.ErrRange},
		{"below the last range", three(), list(4, 2, -1), nil, false, api.ErrRange},
		{"too short", three(), list(4, 2), nil, false, api.ErrRange},
		{"too long", three(), list(4, 2, 1, 0), nil, false, api.ErrRange},
		{"much too long", three(), make([]int, 99), nil, false, api.ErrRange},
		{"nil", three(), nil, nil, false, api.ErrRange},
		{"huge", three(), list(math.MaxInt, math.MinInt, 1), nil, false, api.ErrRange},
		{"for no fields", vat.Yard{}, list(0), nil, false, api.ErrRange},
		{"not valid", vat.Yard{Fields: ranges(1, 0)}, list(0), nil, false, api.ErrArg},
		{"not valid, but with blues", three(sample(3, 1, 1)), list(4, 2, 1), nil, false, api.ErrArg},
		{"too large", vat.Yard{Fields: ranges(0, 20, 0, 20, 0, 20)}, list(0, 0, 0), nil, false, api.ErrLimit},
	} {
		l, e := vat.Play(x.y, x.blues)
		if !slices.Equal(l, x.want) || e != x.e {
			t.Errorf("%s: Play is %v, %v", x.name, l, e)
		}
		if vat.ProveTruth(x.y, x.blues) != x.truth {
			t.Errorf("%s: ProveTruth is %v", x.name, !x.truth)
		}
	}
}

// P1.1
func TestPlayOfAllBlues(t *testing.T) {
	for _, y := range yards() {
		for _, b := range allBlues(y) {
			l, e := vat.Play(y, b)
			if e != api.OK || len(l) != len(y.Vats) {
				t.Fatalf("Play of %v, %v: %v, %v", y, b, l, e)
			}
			for v, n := range l {
				if n != blueOf(y, b, v) {
					t.Errorf("Play of %v, %v: %v", y, b, l)
				}
			}
			if vat.ProveTruth(y, b) != isTruth(y, b) {
				t.Errorf("ProveTruth of %v, %v is not %v", y, b, isTruth(y, b))
			}
		}
	}
}

// P1.2
func TestExamplesOfBounds(t *testing.T) {
	for _, x := range []struct {
		y            vat.Yard
		vats, fields []vat.Range
		e            api.Errno
	}{
		{three(), ranges(12, 22, 9, 14, 10, 17), ranges(3, 5, 2, 3, 0, 1), api.OK},
		{three(sample(0, 18, 18)), ranges(18, 18, 10, 13, 13, 15), ranges(4, 4, 2, 3, 1, 1), api.OK},
		{three(sample(0, 0, 999)), ranges(12, 22, 9, 14, 10, 17), ranges(3, 5, 2, 3, 0, 1), api.OK},
		{vat.Yard{}, nil, nil, api.OK},
		{vat.Yard{Fields: ranges(1, 2)}, nil, ranges(1, 2), api.OK},
		{vat.Yard{Vats: make([][]int, 2)}, ranges(0, 0, 0, 0), nil, api.OK},
		{vat.Yard{Fields: ranges(3, 5, 0, 1), Vats: [][]int{list(4, 2)}}, ranges(12, 22), ranges(3, 5, 0, 1), api.OK},
		{largest(), ranges(288, 621, 9, 109, 140, 230, 36, 147), ranges(0, 19, 11, 20, 1, 10, 20, 20, 0, 0), api.OK},
		{untrue(), nil, nil, api.ErrFalse},
		{vat.Yard{Fields: ranges(1, 0)}, nil, nil, api.ErrArg},
	} {
		b, e := vat.Bounds(x.y)
		f, g := vat.Fields(x.y)
		if !slices.Equal(b, x.vats) || e != x.e || !slices.Equal(f, x.fields) || g != x.e {
			t.Errorf("Bounds, Fields of %v: %v, %v; %v, %v", x.y, b, e, f, g)
		}
	}
}

// P1.2
func TestBounds(t *testing.T) {
	for _, y := range yards() {
		b, e := vat.Bounds(y)
		f, g := vat.Fields(y)
		truths := truthsOf(y)
		if len(truths) == 0 {
			if len(b) > 0 || e != api.ErrFalse || len(f) > 0 || g != api.ErrFalse {
				t.Errorf("Bounds, Fields of %v: %v, %v; %v, %v", y, b, e, f, g)
			}
			continue
		}
		if e != api.OK || g != api.OK || len(b) != len(y.Vats) || len(f) != len(y.Fields) {
			t.Fatalf("Bounds, Fields of %v: %v, %v; %v, %v", y, b, e, f, g)
		}
		for v, r := range b {
			if want := ends(truths, func(t []int) int { return blueOf(y, t, v) }); r != want {
				t.Errorf("Bounds of %v, %d: %v, not %v", y, v, r, want)
			}
		}
		for i, r := range f {
			if want := ends(truths, func(t []int) int { return t[i] }); r != want {
				t.Errorf("Fields of %v, %d: %v, not %v", y, i, r, want)
			}
		}
	}
}

// P1.3
func TestExamplesOfMoreAndAsk(t *testing.T) {
	const yes, no, may = vat.Always, vat.Never, vat.Perhaps
	if yes != 1 || no != 2 || may != 3 {
		t.Errorf("the verdicts are %d, %d, %d", yes, no, may)
	}
	equal := vat.Yard{Fields: ranges(1, 4), Vats: [][]int{list(2), list(2)}}
	for _, x := range []struct {
		y                vat.Yard
		one, other, want int
	}{
		{three(), 0, 1, may}, {three(), 1, 0, no}, {three(), 2, 1, may}, {three(sample(0, 18, 18)), 2, 1, yes}, {three(sample(0, 18, 18)), 0, 1, yes}, {three(sample(0, 18, 18)), 0, 2, yes},
		{equal, 0, 1, no}, {equal, 1, 0, no},
	} {
		if v, e := vat.More(x.y, x.one, x.other); v != x.want || e != api.OK {
			t.Errorf("More of %v, %d, %d: %d, %v", x.y, x.one, x.other, v, e)
		}
	}
	for _, x := range []struct {
		y         vat.Yard
		vat, left int
		e         api.Errno
	}{
		{three(), 0, 2, api.OK}, {three(sample(0, 18, 18)), 1, 1, api.OK}, {three(sample(0, 17, 18), sample(2, 13, 14)), 0, 1, api.OK},
		{equal, 0, 1, api.OK}, // both leave as many: the first one
		{vat.Yard{Vats: make([][]int, 3)}, 0, 1, api.OK},
		{vat.Yard{Fields: ranges(1, 4), Vats: [][]int{list(0)}}, 0, 4, api.OK},
		{vat.Yard{Fields: ranges(1, 4), Vats: [][]int{list(0), list(0), list(3), list(1)}}, 2, 1, api.OK},
		{vat.Yard{Fields: ranges(1, 4)}, 0, 0, api.ErrNone}, {vat.Yard{}, 0, 0, api.ErrNone}, {untrue(), 0, 0, api.ErrFalse},
	} {
		if v, n, e := vat.Ask(x.y); v != x.vat || n != x.left || e != x.e {
			t.Errorf("Ask of %v: %d, %d, %v", x.y, v, n, e)
		}
	}
}

// P1.3
func TestMoreAndAsk(t *testing.T) {
	for _, y := range yards() {
		truths := truthsOf(y)
		if len(truths) == 0 || len(y.Vats) == 0 {
			continue
		}
		for one := range y.Vats {
			for other := range y.Vats {
				if one == other {
					continue
				}
				if v, e := vat.More(y, one, other); v != wantMore(y, truths, one, other) || e != api.OK {
					t.Errorf("More of %v, %d, %d: %d, %v", y, one, other, v, e)
				}
			}
		}
		v, n, e := vat.Ask(y)
		if w, m := wantAsk(y, truths); v != w || n != m || e != api.OK {
			t.Errorf("Ask of %v: %d, %d, %v, not %d, %d", y, v, n, e, w, m)
		}
	}
}

// P1.4
func TestExamplesOfNeeds(t *testing.T) {
	full := vat.Yard{Fields: ranges(20, 20, 20, 20, 20, 20, 20, 20, 20, 20), Vats: [][]int{list(9, 9, 9, 9, 9), list(9, 9, 9, 9, 0)}}
	for _, x := range []struct {
		y                      vat.Yard
		vat, field, blue, want int
		e                      api.Errno
	}{
		{three(), 1, 1, 15, 3, api.OK}, {three(), 1, 0, 36, 9, api.OK}, {three(), 1, 0, 37, 0, api.ErrShort},
		{three(), 0, 0, 0, 0, api.OK}, {three(), 0, 0, 12, 0, api.OK}, {three(), 0, 0, 13, 1, api.OK}, {three(), 0, 2, 12, 0, api.OK}, {three(), 0, 2, 13, 0, api.ErrShort}, {three(), 0, 0, 999, 0, api.ErrShort},
		{three(sample(0, 18, 18)), 1, 0, 37, 7, api.OK},
		{full, 0, 0, 900, 0, api.OK}, {full, 0, 4, 999, 5, api.OK}, {full, 1, 4, 900, 9, api.OK}, {full, 1, 4, 901, 0, api.ErrShort},
		{three(), 3, 0, 9, 0, api.ErrRange}, {three(), -1, 0, 9, 0, api.ErrRange}, {three(), 0, 3, 9, 0, api.ErrRange}, {three(), 0, -1, 9, 0, api.ErrRange}, {three(), 0, 0, 1000, 0, api.ErrRange}, {three(), 0, 0, -1, 0, api.ErrRange},
		{vat.Yard{Vats: make([][]int, 1)}, 0, 0, 0, 0, api.ErrRange}, {vat.Yard{Fields: ranges(1, 1)}, 0, 0, 0, 0, api.ErrRange},
		{untrue(), 0, 0, 0, 0, api.ErrFalse}, {untrue(), 0, 0, 999, 0, api.ErrFalse},
	} {
		if n, e := vat.Needs(x.y, x.vat, x.field, x.blue); n != x.want || e != x.e {
			t.Errorf("Needs of %v, %d, %d, %d: %d, %v", x.y, x.vat, x.field, x.blue, n, e)
		}
	}
}

// P1.4
func TestNeeds(t *testing.T) {
	for _, y := range yards() {
		truths := truthsOf(y)
		if len(truths) == 0 {
			continue
		}
		for v := range y.Vats {
			for f := range y.Fields {
				for blue := range 130 {
					n, e := vat.Needs(y, v, f, blue)
					want, enough := wantNeeds(y, truths, v, f, blue)
					if n != want || enough != (e == api.OK) || !enough && e != api.ErrShort {
						t.Errorf("Needs of %v, %d, %d, %d: %d, %v", y, v, f, blue, n, e)
					}
					if !enough {
						break
					}
				}
			}
		}
	}
}

// P1.5
func TestExamplesOfSpread(t *testing.T) {
	for _, x := range []struct {
		y           vat.Yard
		field, many int
		put         []int
		least       int
		e           api.Errno
	}{
		{three(), 0, 3, list(0, 1, 2), 12, api.OK}, {three(), 0, 4, list(1, 2, 1), 13, api.OK}, {three(), 2, 5, list(0, 0, 5), 9, api.OK},
		{three(), 0, 0, list(0, 0, 0), 9, api.OK}, {three(), 0, 9, list(2, 3, 4), 18, api.OK},
		{vat.Yard{Fields: ranges(0, 2), Vats: [][]int{list(0)}}, 0, 9, list(9), 0, api.OK},
		{vat.Yard{Fields: ranges(20, 20), Vats: [][]int{list(9)}}, 0, 9, list(9), 360, api.OK},
		{vat.Yard{Fields: ranges(1, 1), Vats: make4(list(0))}, 0, 9, list(2, 2, 2, 3), 2, api.OK},
		{three(), 3, 0, nil, 0, api.ErrRange}, {three(), -1, 0, nil, 0, api.ErrRange}, {three(), 0, 10, nil, 0, api.ErrRange}, {three(), 0, -1, nil, 0, api.ErrRange},
		{untrue(), 0, 0, nil, 0, api.ErrFalse}, {vat.Yard{Fields: ranges(1, 2)}, 0, 3, nil, 0, api.ErrNone}, {vat.Yard{Vats: make([][]int, 1)}, 0, 3, nil, 0, api.ErrRange},
	} {
		p, n, e := vat.Spread(x.y, x.field, x.many)
		if !slices.Equal(p, x.put) || n != x.least || e != x.e {
			t.Errorf("Spread of %v, %d, %d: %v, %d, %v", x.y, x.field, x.many, p, n, e)
		}
	}
}

// make4 returns four vats, each with a copy of the list.
func make4(l []int) (out [][]int) {
	for range 4 {
		out = append(out, slices.Clone(l))
	}
	return out
}

// P1.5
func TestSpread(t *testing.T) {
	for _, y := range yards() {
		truths := truthsOf(y)
		if len(truths) == 0 || len(y.Vats) == 0 {
			continue
		}
		for f := range y.Fields {
			for _, many := range list(0, 1, 2, 4, 9) {
				p, n, e := vat.Spread(y, f, many)
				if q, m := wantSpread(y, truths, f, many); !slices.Equal(p, q) || n != m || e != api.OK {
					t.Errorf("Spread of %v, %d, %d: %v, %d, %v, not %v, %d", y, f, many, p, n, e, q, m)
				}
			}
		}
	}
}

// P1.5
func TestProveSpread(t *testing.T) {
	y := three()
	bad := three(sample(3, 0, 9))
	dry := vat.Yard{Fields: ranges(1, 2)}
	for _, x := range []struct {
		y     vat.Yard
		field int
		put   []int
		least int
		want  bool
	}{
		{y, 0, list(1, 2, 1), 13, true}, {y, 0, list(1, 2, 1), 14, false}, {y, 0, list(1, 2, 1), 12, true}, {y, 0, list(0, 1, 2), 12, true}, {y, 0, list(0, 1, 2), 13, false},
		{y, 0, list(0, 0, 0), 9, true}, {y, 0, list(0, 0, 0), 10, false}, {y, 0, list(0, 0, 0), 0, true}, {y, 0, list(0, 0, 0), -5, true},
		{y, 0, list(9, 9, 9), 36, true}, {y, 0, list(9, 9, 9), 37, false}, // the sum may be any
		{y, 0, list(0, 0, 0), math.MinInt, true}, {y, 0, list(9, 9, 9), math.MaxInt, false},
		{y, 0, list(0, 0, 10), 0, false}, {y, 0, list(10, 0, 0), 0, false}, {y, 0, list(0, -1, 5), 0, false}, {y, 0, list(math.MaxInt, 0, 0), 0, false}, {y, 0, list(0, 0, math.MinInt), 0, false},
		{y, 0, list(1, 2), 0, false}, {y, 0, list(1, 2, 1, 0), 0, false}, {y, 0, nil, 0, false}, {y, 0, make([]int, 99), 0, false},
		{y, 3, list(1, 2, 1), 0, false}, {y, -1, list(1, 2, 1), 0, false}, {y, math.MaxInt, list(1, 2, 1), 0, false},
		{untrue(), 0, list(1, 2, 1), 0, false}, {bad, 0, list(1, 2, 1), 0, false},
		{dry, 0, nil, 0, false}, {dry, 0, list(), -1, false}, {vat.Yard{}, 0, nil, 0, false}, {vat.Yard{Vats: make([][]int, 1)}, 0, list(0), 0, false},
	} {
		if vat.ProveSpread(x.y, x.field, x.put, x.least) != x.want {
			t.Errorf("ProveSpread of %v, %d, %v, %d is not %v", x.y, x.field, x.put, x.least, x.want)
		}
	}
	d := &dice{state: 5}
	for _, y := range yards() {
		truths := truthsOf(y)
		if len(y.Fields) == 0 || len(y.Vats) == 0 {
			continue
		}
		var put []int
		for range y.Vats {
			put = append(put, d.roll(0, 9))
		}
		f := d.roll(0, len(y.Fields)-1)
		if len(truths) == 0 {
			if vat.ProveSpread(y, f, put, 0) {
				t.Errorf("ProveSpread of %v, which has no truth", y)
			}
			continue
		}
		least := leastBlue(y, truths, f, put)
		if !vat.ProveSpread(y, f, put, least) || vat.ProveSpread(y, f, put, least+1) {
			t.Errorf("ProveSpread of %v, %d, %v, %d", y, f, put, least)
		}
	}
}

// P1.6
func TestExamplesOfFirstAndLeave(t *testing.T) {
	for _, x := range []struct {
		y     vat.Yard
		first int
		e     api.Errno
		leave []int
	}{
		{vat.Yard{}, 0, api.ErrNone, nil}, {three(), 0, api.ErrNone, nil}, {three(sample(0, 18, 18)), 0, api.ErrNone, nil},
		{three(sample(0, 18, 18), sample(2, 13, 13), sample(1, 13, 13)), 2, api.OK, list(1)},
		{three(sample(0, 23, 30)), 0, api.OK, list(0)},
		{three(sample(0, 23, 23), sample(1, 99, 99), sample(2, 9, 9)), 0, api.OK, list(0, 1, 2)},
		{three(sample(0, 12, 12), sample(0, 13, 13), sample(0, 14, 14), sample(0, 15, 15), sample(0, 16, 16)), 1, api.OK, list(0, 1, 2, 3)},
		{three(sample(0, 12, 12), sample(0, 14, 14), sample(0, 14, 14), sample(0, 12, 12)), 1, api.OK, list(0, 3)},
		{three(sample(0, 12, 12), sample(0, 12, 12), sample(0, 12, 12), sample(0, 22, 22)), 3, api.OK, list(3)},
		{three(sample(0, 99, 99), sample(0, 99, 99), sample(0, 99, 99), sample(0, 99, 99), sample(0, 99, 99)), 0, api.OK, list(0, 1, 2, 3, 4)},
		{vat.Yard{Vats: make([][]int, 1), Samples: []vat.Sample{sample(0, 0, 0), sample(0, 1, 1)}}, 1, api.OK, list(1)},
	} {
		n, e := vat.First(x.y)
		l, f := vat.Leave(x.y)
		if n != x.first || e != x.e || !slices.Equal(l, x.leave) || f != api.OK {
			t.Errorf("First, Leave of %v: %d, %v; %v, %v", x.y, n, e, l, f)
		}
	}
}

// P1.6
func TestFirstAndLeave(t *testing.T) {
	wrong := 0
	for _, y := range yards() {
		want, is := wantFirst(y)
		if is {
			wrong++
		}
		n, e := vat.First(y)
		if n != want || is != (e == api.OK) || !is && e != api.ErrNone {
			t.Errorf("First of %v: %d, %v, not %d", y, n, e, want)
		}
		if l, e := vat.Leave(y); !slices.Equal(l, wantLeave(y)) || e != api.OK {
			t.Errorf("Leave of %v: %v, %v", y, l, e)
		}
	}
	if wrong < 50 {
		t.Errorf("only %d yards have a wrong sample: they say too little", wrong)
	}
}

// TestLargest asks all calls about the largest yard that is allowed.
func TestLargest(t *testing.T) {
	y := largest(sample(0, 288, 621), sample(1, 9, 108), sample(2, 140, 229), sample(3, 36, 147), sample(3, 37, 140))
	truths := truthsOf(y)
	b, _ := vat.Bounds(y)
	for v := range y.Vats {
		if b[v] != ends(truths, func(t []int) int { return blueOf(y, t, v) }) {
			t.Errorf("Bounds: %v", b)
		}
	}
	if v, n, e := vat.Ask(y); e != api.OK {
		t.Errorf("Ask: %v", e)
	} else if w, m := wantAsk(y, truths); v != w || n != m {
		t.Errorf("Ask: %d, %d, not %d, %d", v, n, w, m)
	}
	p, n, e := vat.Spread(y, 3, 9)
	if q, m := wantSpread(y, truths, 3, 9); !slices.Equal(p, q) || n != m || e != api.OK {
		t.Errorf("Spread: %v, %d, %v, not %v, %d", p, n, e, q, m)
	}
	if l, e := vat.Leave(y); len(l) > 0 || e != api.OK {
		t.Errorf("Leave: %v, %v", l, e)
	}
}
