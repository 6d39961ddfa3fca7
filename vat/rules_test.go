package vat_test

import (
	"fmt"
	"math"
	"slices"
	"testing"

	"anil/api"
	"anil/vat"
)

// The rules R1 to R11, and the promises P1 to P8, as far as they are about package vat. R5, R6, R8 and P3 to P6 are tested where the numbers are: R5 and R8 in TestCheckParts and TestOneBadArgument, R6 and P4 in vat_test.go, P3, P5 and P6 in properties_test.go. (R10 is about strings, and P8 about lines and files: vat has none.)

// args are the arguments of all calls beside the yard.
type args struct {
	blues            []int
	one, other       int
	vat, field, blue int
	many, least      int
	put              []int
}

// plain are arguments that are valid for the yard of the examples.
func plain() args {
	return args{blues: list(4, 2, 1), other: 1, vat: 1, field: 1, blue: 15, many: 3, put: list(0, 1, 2), least: 3}
}

// answer is what a call returns.
type answer struct {
	call string
	e    api.Errno
	text string // the results without the error
	zero bool   // whether all of them are zero values
}

func ask(y vat.Yard, a args) (out []answer) {
	add := func(call string, e api.Errno, zero bool, results ...any) {
		out = append(out, answer{call, e, fmt.Sprint(results...), zero})
	}
	add("CheckYard", vat.CheckYard(y), true)
	p, e := vat.Play(y, a.blues)
	add("Play", e, len(p) == 0, p)
	b, e := vat.Bounds(y)
	add("Bounds", e, len(b) == 0, b)
	f, e := vat.Fields(y)
	add("Fields", e, len(f) == 0, f)
	m, e := vat.More(y, a.one, a.other)
	add("More", e, m == 0, m)
	v, n, e := vat.Ask(y)
	add("Ask", e, v == 0 && n == 0, v, n)
	n, e = vat.Needs(y, a.vat, a.field, a.blue)
	add("Needs", e, n == 0, n)
	p, n, e = vat.Spread(y, a.field, a.many)
	add("Spread", e, len(p) == 0 && n == 0, p, n)
	n, e = vat.First(y)
	add("First", e, n == 0, n)
	p, e = vat.Leave(y)
	add("Leave", e, len(p) == 0, p)
	add("ProveTruth", api.OK, false, vat.ProveTruth(y, a.blues))
	add("ProveSpread", api.OK, false, vat.ProveSpread(y, a.field, a.put, a.least))
	return out
}

// TestErrorsInOrder: with several errors the first one of R1 counts, and no other result comes with it (R1, R2).
func TestErrorsInOrder(t *testing.T) {
	const limit, arg, rng, twice, none, short, wrong = api.ErrLimit, api.ErrArg, api.ErrRange, api.ErrTwice, api.ErrNone, api.ErrShort, api.ErrFalse
	bad := args{blues: list(9), one: 3, other: 3, vat: -1, field: 5, blue: 1000, many: -1}
	many := untrue()
	many.Samples = append(many.Samples, make([]vat.Sample, 4)...)
	wide := vat.Yard{Fields: ranges(0, 20, 0, 20, 0, 20), Vats: make4(list(0, 0, 0))}
	bent := untrue()
	bent.Fields[1] = to(3, 2)
	twin := plain()
	twin.one, twin.other = 2, 2
	far := plain()
	far.blue = 999
	for _, x := range []struct {
		name string
		y    vat.Yard
		a    args
		all  api.Errno // the error of each call, if it is not OK
		want map[string]api.Errno
	}{
		{"too many samples", many, bad, limit, nil},
		{"too many, and not valid", vat.Yard{Fields: ranges(2, 1), Vats: make([][]int, 5)}, bad, limit, nil},
		{"not valid", bent, bad, arg, nil},
		{"too wide, and not valid", vat.Yard{Fields: wide.Fields, Vats: [][]int{list(0, 0, 10)}}, bad, arg, nil},
		{"too wide", wide, bad, limit, nil},
		{"too wide, with samples that contradict each other", vat.Yard{Fields: wide.Fields, Vats: wide.Vats, Samples: []vat.Sample{sample(0, 1, 1)}}, plain(), limit, nil},
		{"bad arguments, without a truth", untrue(), bad, 0, map[string]api.Errno{"Play": rng, "Bounds": wrong, "Fields": wrong, "More": rng, "Ask": wrong, "Needs": rng, "Spread": rng}},
		{"bad arguments", three(), bad, 0, map[string]api.Errno{"Play": rng, "More": rng, "Needs": rng, "Spread": rng, "First": none}},
		{"bad arguments, without vats", vat.Yard{Fields: ranges(1, 2)}, bad, 0, map[string]api.Errno{"Play": rng, "More": rng, "Ask": none, "Needs": rng, "Spread": rng, "First": none}},
		{"without a truth", untrue(), plain(), 0, map[string]api.Errno{"Bounds": wrong, "Fields": wrong, "More": wrong, "Ask": wrong, "Needs": wrong, "Spread": wrong}},
		{"the same vat, without a truth", untrue(), twin, 0, map[string]api.Errno{"Bounds": wrong, "Fields": wrong, "More": twice, "Ask": wrong, "Needs": wrong, "Spread": wrong}},
		{"the same vat", three(), twin, 0, map[string]api.Errno{"More": twice, "First": none}},
		{"not enough, without a truth", untrue(), far, 0, map[string]api.Errno{"Bounds": wrong, "Fields": wrong, "More": wrong, "Ask": wrong, "Needs": wrong, "Spread": wrong}},
		{"not enough", three(), far, 0, map[string]api.Errno{"Needs": short, "First": none}},
		{"without anything", vat.Yard{}, args{other: 1}, 0, map[string]api.Errno{"More": rng, "Ask": none, "Needs": rng, "Spread": rng, "First": none}},
		{"without vats", vat.Yard{Fields: ranges(1, 2)}, args{blues: list(1), other: 1}, 0, map[string]api.Errno{"More": rng, "Ask": none, "Needs": rng, "Spread": none, "First": none}},
		{"all is well", three(), plain(), 0, map[string]api.Errno{"First": none}},
	} {
		for _, got := range ask(x.y, x.a) {
			want := x.want[got.call]
			switch got.call {
			case "ProveTruth", "ProveSpread":
				continue
			}
			if x.all != api.OK {
				want = x.all
			}
			if got.e != want {
				t.Errorf("%s: %s: %v, not %v", x.name, got.call, got.e, want)
			}
			if got.e != api.OK && !got.zero {
				t.Errorf("%s: %s: %s comes with an error", x.name, got.call, got.text)
			}
		}
	}
}

// TestOneBadArgument makes one argument wrong at a time, just beyond its limit and far beyond.
func TestOneBadArgument(t *testing.T) {
	for _, y := range []vat.Yard{three(), untrue()} {
		for _, n := range list(-1, 3, math.MinInt, math.MaxInt) {
			_, e := vat.More(y, n, 1)
			_, f := vat.More(y, 1, n)
			_, g := vat.More(y, n, n)
			_, h := vat.Needs(y, n, 1, 15)
			_, i := vat.Needs(y, 1, n, 15)
			_, _, j := vat.Spread(y, n, 3)
			for _, e := range []api.Errno{e, f, g, h, i, j} {
				if e != api.ErrRange {
					t.Errorf("with %d for a vat or a field: %v", n, e)
				}
			}
		}
		for _, n := range list(-1, 10, math.MinInt, math.MaxInt) {
			if _, _, e := vat.Spread(y, 0, n); e != api.ErrRange {
				t.Errorf("Spread of %d: %v", n, e)
			}
		}
		for _, n := range list(-1, 1000, math.MinInt, math.MaxInt) {
			if _, e := vat.Needs(y, 0, 0, n); e != api.ErrRange {
				t.Errorf("Needs for %d: %v", n, e)
			}
		}
	}
}

// TestEmpty: nil is the same as a list without elements (R3), and sums of nothing are 0 (R9).
func TestEmpty(t *testing.T) {
	full := vat.Yard{Fields: []vat.Range{}, Vats: [][]int{}, Samples: []vat.Sample{}}
	for i, got := range ask(full, args{blues: list(), put: list()}) {
		if want := ask(vat.Yard{}, args{})[i]; got.e != want.e || got.text != want.text {
			t.Errorf("%v, but with nil %v", got, want)
		}
	}
	y := vat.Yard{Vats: [][]int{nil, {}}}
	p, e := vat.Play(y, nil)
	q, f := vat.Play(y, list())
	b, g := vat.Bounds(y)
	v, h := vat.More(y, 0, 1)
	if !slices.Equal(p, list(0, 0)) || !slices.Equal(q, p) || !slices.Equal(b, ranges(0, 0, 0, 0)) || v != vat.Never || e+f+g+h != api.OK {
		t.Errorf("without fields: %v, %v, %v, %d", p, q, b, v)
	}
}

// TestMemory: arguments stay as they are, and results are in memory of their own (R4).
func TestMemory(t *testing.T) {
	for _, y := range append(yards(), three(), three(sample(0, 18, 18), sample(1, 99, 99)), largest()) {
		a := args{put: make([]int, len(y.Vats)), other: 1}
		for _, f := range y.Fields {
			a.blues = append(a.blues, f.Hi)
		}
		y = roomyYard(y)
		a.put, a.blues = roomy(a.put, -3), roomy(a.blues, -3)
		was, blues, put := fmt.Sprint(toEnds(y)), fmt.Sprint(a.blues[:cap(a.blues)]), fmt.Sprint(a.put[:cap(a.put)])
		first := ask(y, a)
		scribble(y, a)
		if fmt.Sprint(toEnds(y)) != was || fmt.Sprint(a.blues[:cap(a.blues)]) != blues || fmt.Sprint(a.put[:cap(a.put)]) != put {
			t.Fatalf("arguments changed: %v, %v, %v", was, toEnds(y), a)
		}
		for i, again := range ask(y, a) { // the same call returns the same, whatever was done to the results
			if again != first[i] {
				t.Errorf("%v, and again %v", first[i], again)
			}
		}
	}
}

// roomy returns a copy of the list with room behind it, where marks show whether it is written to.
func roomy[T any](l []T, mark T) []T {
	out := append(make([]T, 0, len(l)+3), l...)
	rest := out[len(l):cap(out)]
	for i := range rest {
		rest[i] = mark
	}
	return out
}

func roomyYard(y vat.Yard) (out vat.Yard) {
	out.Fields, out.Samples = roomy(y.Fields, to(-3, -3)), roomy(y.Samples, sample(-3, -3, -3))
	out.Vats = roomy(y.Vats, list(-3))
	for v, l := range out.Vats {
		out.Vats[v] = roomy(l, -3)
	}
	return out
}

// toEnds returns the yard with its lists up to the ends of their memory.
func toEnds(y vat.Yard) (out vat.Yard) {
	out.Fields, out.Samples = y.Fields[:cap(y.Fields)], y.Samples[:cap(y.Samples)]
	for _, l := range y.Vats[:cap(y.Vats)] {
		out.Vats = append(out.Vats, l[:cap(l)])
	}
	return out
}

// scribble writes over all results.
func scribble(y vat.Yard, a args) {
	for range 2 {
		p, _ := vat.Play(y, a.blues)
		l, _ := vat.Leave(y)
		s, _, _ := vat.Spread(y, a.field, a.many)
		for _, l := range [][]int{p, l, s} {
			for i := range l[:cap(l)] {
				l[:cap(l)][i] = -7
			}
		}
		b, _ := vat.Bounds(y)
		f, _ := vat.Fields(y)
		for _, l := range [][]vat.Range{b, f} {
			for i := range l[:cap(l)] {
				l[:cap(l)][i] = to(-7, -7)
			}
		}
	}
}

// TestResultsApart: two results of equal calls share no memory (R4), and each is equal to the other (the program stores nothing).
func TestResultsApart(t *testing.T) {
	y := three(sample(0, 99, 99), sample(1, 99, 99))
	one, _ := vat.Leave(y)
	two, _ := vat.Leave(y)
	one[0] = 9
	if !slices.Equal(two, list(0, 1)) {
		t.Errorf("Leave: %v", two)
	}
	b, _ := vat.Bounds(three())
	c, _ := vat.Bounds(three())
	b[0] = to(1, 1)
	if !slices.Equal(c, ranges(12, 22, 9, 14, 10, 17)) {
		t.Errorf("Bounds: %v", c)
	}
}

// TestAnyArguments: each call returns, whatever its arguments are (P1), and the calls that prove say no (R11).
func TestAnyArguments(t *testing.T) {
	odd := list(0, -1, 1, 5, 21, math.MaxInt, math.MinInt, math.MaxInt-1)
	lists := [][]int{nil, {}, {0}, {-1, math.MaxInt}, {1, 2, 3}, {math.MinInt, math.MinInt, math.MinInt}, make([]int, 5), make([]int, 1000)}
	d := &dice{state: 9}
	pick := func() int { return odd[d.roll(0, len(odd)-1)] }
	for i := range 3000 {
		var y vat.Yard
		if i%3 == 0 {
			y = three()
		}
		if i%2 == 0 {
			for range d.roll(0, 6) {
				y.Fields = append(y.Fields, to(pick(), pick()))
			}
			for range d.roll(0, 3) {
				y.Vats = append(y.Vats, slices.Clone(lists[d.roll(0, len(lists)-1)]))
			}
			for range d.roll(0, 6) {
				y.Samples = append(y.Samples, sample(pick(), pick(), pick()))
			}
		}
		a := args{blues: lists[d.roll(0, len(lists)-1)], put: lists[d.roll(0, len(lists)-1)], one: pick(), other: pick(), vat: pick(), field: pick(), blue: pick(), many: pick(), least: pick()}
		for _, got := range ask(y, a) {
			if vat.CheckYard(y) != api.OK && got.text == "true" {
				t.Errorf("%s of %v", got.call, y)
			}
		}
	}
}

// TestEachEnd: what is in a range is at its ends in some truth, and never beyond (P2, R7).
func TestEachEnd(t *testing.T) {
	for _, y := range yards() {
		b, e := vat.Bounds(y)
		if e != api.OK || len(y.Samples) == api.MaxVatSamples {
			continue
		}
		for v, r := range b {
			for _, x := range []struct {
				s    vat.Sample
				want bool
			}{{sample(v, r.Lo, r.Lo), true}, {sample(v, r.Hi, r.Hi), true}, {sample(v, r.Hi+1, 999), false}, {sample(v, 0, max(0, r.Lo-1)), r.Lo == 0}} {
				if _, e := vat.First(with(y, x.s)); (e == api.ErrNone) != x.want {
					t.Errorf("First of %v with %v: %v", y, x.s, e)
				}
			}
		}
	}
}

// TestAnyOrder: samples lead to the same ranges, and to sets of the same size, in any order (P7).
func TestAnyOrder(t *testing.T) {
	d := &dice{state: 3}
	for _, y := range yards() {
		z := clone(y)
		for i := range z.Samples {
			j := d.roll(0, i)
			z.Samples[i], z.Samples[j] = z.Samples[j], z.Samples[i]
		}
		a, b := ask(y, plain()), ask(z, plain())
		for i := range a {
			if a[i].call != "First" && a[i].call != "Leave" && a[i] != b[i] {
				t.Errorf("%v: %v, and with other samples %v", y, a[i], b[i])
			}
		}
		l, _ := vat.Leave(y)
		m, _ := vat.Leave(z)
		if len(l) != len(m) {
			t.Errorf("Leave of %v: %v, and of %v: %v", y.Samples, l, z.Samples, m)
		}
	}
}
