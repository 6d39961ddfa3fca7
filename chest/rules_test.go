package chest_test

import (
	"fmt"
	"math"
	"slices"
	"testing"

	"anil/api"
	"anil/cake"
	"anil/chest"
)

// The rules R1 to R11, and the promises P1 to P7, as far as they are about package chest. R5, R6, R8 and P2 to P5 are tested where the numbers are: R5 and R8 in TestCheckNumbers, R6 in chest_test.go, P2 to P5 in properties_test.go. (R10 is about strings, P6 about what is left out, and P8 about lines and files: chest has none.)

// args are the arguments of all calls beside the pack.
type args struct {
	one, other int
	cakes      []int
	said       chest.Range
	chests     [][]int
	many       int
}

// plain are arguments that are valid for the pack of the examples.
func plain() args {
	return args{one: 0, other: 2, cakes: list(0, 2), said: to(4, 5), chests: lists(list(0, 2)), many: 1}
}

// answer is what a call returns.
type answer struct {
	call string
	e    api.Errno
	text string // the results without the error
	zero bool   // whether all of them are zero values
}

func ask(p chest.Pack, a args) (out []answer) {
	add := func(call string, e api.Errno, zero bool, results ...any) {
		out = append(out, answer{call, e, fmt.Sprint(results...), zero})
	}
	add("CheckPack", chest.CheckPack(p), true)
	n, e := chest.Together(p, a.one, a.other)
	add("Together", e, n == 0, n)
	r, e := chest.Label(p, a.cakes)
	add("Label", e, r == to(0, 0), r)
	n, e = chest.Odd(p, a.cakes, a.said)
	add("Odd", e, n == 0, n)
	m, e := chest.Most(p)
	add("Most", e, len(m) == 0, m)
	l, e := chest.Left(p)
	add("Left", e, len(l) == 0, l)
	n, e = chest.Need(p, a.many)
	add("Need", e, n == 0, n)
	add("ProvePack", api.OK, false, chest.ProvePack(p, a.chests, a.many))
	return out
}

// errors says for some calls which error they return.
type errors map[string]api.Errno

// TestErrorsInOrder: with several errors the first one of R1 counts, and no other result comes with it (R1, R2).
func TestErrorsInOrder(t *testing.T) {
	const limit, arg, rng, twice, none, short, wrong = api.ErrLimit, api.ErrArg, api.ErrRange, api.ErrTwice, api.ErrNone, api.ErrShort, api.ErrFalse
	bad := args{one: 9, other: 9, cakes: list(9), said: to(1, 0), chests: lists(list(9)), many: 7}
	size := func(p *chest.Pack) { p.Size = 4 }
	wide := func(p *chest.Pack) {
		p.Cut.Boilings[0].Shade, p.Cut.Boilings[1].Shade, p.Cut.Boilings[2].Shade = span(0, 4), span(3, 7), span(5, 7)
	}
	noCake, noOther, equals, noChest, noRange, noLabel, many, most := plain(), plain(), plain(), plain(), plain(), plain(), plain(), plain()
	noCake.one, noOther.other, equals.one = -1, 4, 2
	noChest.cakes, noRange.said, noLabel.said = list(2, 0), to(5, 4), to(3, 5)
	many.many, most.many = 7, 6
	for _, x := range []struct {
		name string
		p    chest.Pack
		a    args
		all  api.Errno // the error of each call, if it is not OK
		want errors
		is   bool // whether ProvePack says yes
	}{
		{"too many cakes, and not valid", changed(four(4, -1, 10), func(p *chest.Pack) { p.Cut.Eye, p.Cut.Cakes = 4, make([]cake.Cake, 7) }), bad, limit, nil, false},
		{"too many lots, and a cut that is not valid", changed(changed(example(), wide), func(p *chest.Pack) { p.Cut.Eye = 4 }), bad, arg, nil, false},
		{"too many lots, and a Size that is not valid", changed(changed(example(), wide), size), bad, limit, nil, false},
		{"too many lots", changed(example(), wide), plain(), limit, nil, false},
		{"no truth, and a Size that is not valid", changed(untrue(), size), bad, wrong, nil, false},
		{"no truth, and bad arguments", untrue(), bad, wrong, nil, false},
		{"no truth, and the same one", untrue(), equals, wrong, nil, false},
		{"no truth", untrue(), plain(), wrong, nil, false},
		{"no boilings", bare(1), plain(), wrong, nil, false},
		{"a Size that is not valid, and bad arguments", four(4, 1, 2), bad, arg, nil, false},
		{"a Spread that is not valid", four(2, -1, 2), plain(), arg, nil, false},
		{"a Width that is not valid", four(2, 1, 10), plain(), arg, nil, false},
		{"no cakes", bare(0), plain(), 0, errors{"Together": rng, "Label": rng, "Odd": rng, "Need": short}, false},
		{"no cakes, and bad arguments", bare(0), bad, 0, errors{"Together": rng, "Label": rng, "Odd": rng, "Need": rng}, false},
		{"bad arguments", example(), bad, 0, errors{"Together": rng, "Label": rng, "Odd": rng, "Need": rng}, false},
		{"a bad cake", example(), noCake, 0, errors{"Together": rng}, true},
		{"a bad cake that is the other one", example(), noOther, 0, errors{"Together": rng}, true},
		{"the same cake", example(), equals, 0, errors{"Together": twice}, true},
		{"no chest", example(), noChest, 0, errors{"Label": rng, "Odd": rng}, true},
		{"nothing is said", example(), noRange, 0, errors{"Odd": rng}, true},
		{"the label is said", example(), noLabel, 0, errors{"Odd": none}, true},
		{"too many chests", example(), many, 0, errors{"Need": rng}, false},
		{"chests that there are not", example(), most, 0, errors{"Need": short}, false},
		{"no sure chest", four(2, 1, 1), plain(), 0, errors{"Need": short}, false},
		{"all is well", example(), plain(), 0, nil, true},
	} {
		for _, got := range ask(x.p, x.a) {
			want := x.want[got.call]
			if x.all != api.OK {
				want = x.all
			}
			if got.call == "ProvePack" {
				if (got.text == "true") != x.is {
					t.Errorf("%s: %s is %s", x.name, got.call, got.text)
				}
				continue
			}
			if got.e != want {
				t.Errorf("%s: %s: %v, not %v", x.name, got.call, got.e, want)
			}
			if got.e != api.OK && !got.zero {
				t.Errorf("%s: %s: %s comes with an error", x.name, got.call, got.text)
			}
		}
	}
}

// TestOneBadArgument makes one argument wrong at a time, just beyond its limit and far beyond; at the limit it is right.
func TestOneBadArgument(t *testing.T) {
	p := four(3, 9, 9)
	for _, n := range list(-1, 4, math.MinInt, math.MaxInt, 0, 3) {
		isCake := n == 0 || n == 3
		_, e := chest.Together(p, n, 1)
		_, f := chest.Together(p, 1, n)
		if (e == api.OK) != isCake || (f == api.OK) != isCake || !isCake && (e != api.ErrRange || f != api.ErrRange) {
			t.Errorf("the cake %d: %v, %v", n, e, f)
		}
		cakes := list(n, 1, 2)
		if n > 0 {
			cakes = list(1, 2, n)
		}
		_, e = chest.Label(p, cakes)
		_, f = chest.Odd(p, cakes, to(0, 0))
		if (e == api.OK) != isCake || (f == api.OK) != isCake || !isCake && (e != api.ErrRange || f != api.ErrRange) || chest.ProvePack(p, lists(cakes), 1) != isCake {
			t.Errorf("the chest %v: %v, %v", cakes, e, f)
		}
	}
	for _, n := range list(-1, 7, math.MinInt, math.MaxInt, 0, 1, 6) {
		if _, e := chest.Need(p, n); (e != api.ErrRange) != (0 <= n && n <= 6) {
			t.Errorf("%d chests: %v", n, e)
		}
	}
}

// TestEmpty: nil is the same as a list without elements (R3).
func TestEmpty(t *testing.T) {
	full, void := bare(0), bare(0)
	full.Cut.Boilings, full.Cut.Cakes = []cake.Boiling{}, []cake.Cake{}
	void.Cut.Boilings, void.Cut.Cakes = nil, nil
	for _, two := range [][2]chest.Pack{
		{full, void},
		{changed(example(), func(p *chest.Pack) { p.Cut.Boilings[0].Plants = list() }), changed(example(), func(p *chest.Pack) { p.Cut.Boilings[0].Plants = nil })},
		{changed(example(), func(p *chest.Pack) { p.Cut.Cakes[0].Grains = list() }), changed(example(), func(p *chest.Pack) { p.Cut.Cakes[0].Grains = nil })},
	} {
		for _, chests := range [][2][][]int{{lists(), nil}, {lists(list()), lists(nil)}, {lists(list(0, 2), list()), lists(list(0, 2), nil)}} {
			other := ask(two[1], args{chests: chests[1]})
			for i, one := range ask(two[0], args{cakes: list(), chests: chests[0]}) {
				if one != other[i] {
					t.Errorf("%v, but with nil %v", one, other[i])
				}
			}
		}
	}
	if !chest.ProvePack(void, nil, 0) || chest.ProvePack(void, lists(nil), 0) || !chest.ProvePack(example(), lists(), 0) {
		t.Error("a packing has no chests, or chests that have cakes")
	}
}

// TestMemory: arguments stay as they are, and results are in memory of their own (R4).
func TestMemory(t *testing.T) {
	for _, p := range append(packs(), example(), four(2, 3, 3), untrue(), largest(3, 5, 9)) {
		a := args{other: len(p.Cut.Cakes) - 1, said: to(2, 4), many: 1, cakes: roomy(list(0, 2), -3)}
		if all := allChests(p); len(all) > 0 {
			a.cakes = roomy(all[len(all)/2], -3)
		}
		a.chests = roomy(lists(roomy(a.cakes, -3)), list(-3))
		p = roomyPack(p)
		was := fmt.Sprint(toEnds(p, a))
		first := ask(p, a)
		scribble(p)
		if now := fmt.Sprint(toEnds(p, a)); now != was {
			t.Fatalf("arguments changed: %v, %v", was, now)
		}
		for i, again := range ask(p, a) { // the same call returns the same, whatever was done to the results
			if again != first[i] {
				t.Errorf("%v, and again %v", first[i], again)
			}
		}
	}
}

// roomy returns a copy of the list with room behind it, where marks show whether it is written to.
func roomy[T any](l []T, mark T) []T {
	out := append(make([]T, 0, len(l)+3), l...)
	rest := out[len(l):cap(out)]
	for i := range rest {
		rest[i] = mark
	}
	return out
}

func roomyPack(p chest.Pack) chest.Pack {
	p = clone(p)
	for i, b := range p.Cut.Boilings {
		p.Cut.Boilings[i].Plants = roomy(b.Plants, -3)
	}
	for i, x := range p.Cut.Cakes {
		p.Cut.Cakes[i].Grains = roomy(x.Grains, -3)
	}
	p.Cut.Boilings, p.Cut.Cakes = roomy(p.Cut.Boilings, boiling(span(-3, -3), -3, span(-3, -3))), roomy(p.Cut.Cakes, look(-3))
	return p
}

// toEnds returns the arguments with their lists up to the ends of their memory.
func toEnds(p chest.Pack, a args) (chest.Pack, args) {
	p.Cut.Boilings, p.Cut.Cakes = slices.Clone(p.Cut.Boilings[:cap(p.Cut.Boilings)]), slices.Clone(p.Cut.Cakes[:cap(p.Cut.Cakes)])
	for i, b := range p.Cut.Boilings {
		p.Cut.Boilings[i].Plants = b.Plants[:cap(b.Plants)]
	}
	for i, x := range p.Cut.Cakes {
		p.Cut.Cakes[i].Grains = x.Grains[:cap(x.Grains)]
	}
	a.cakes, a.chests = a.cakes[:cap(a.cakes)], slices.Clone(a.chests[:cap(a.chests)])
	for i, c := range a.chests {
		a.chests[i] = c[:cap(c)]
	}
	return p, a
}

// scribble writes over all results.
func scribble(p chest.Pack) {
	for range 2 {
		most, _ := chest.Most(p)
		left, _ := chest.Left(p)
		for _, l := range append([][]int{left}, most...) {
			for i := range l[:cap(l)] {
				l[:cap(l)][i] = -7
			}
		}
		for i := range most[:cap(most)] {
			most[:cap(most)][i] = nil
		}
	}
}

// TestResultsApart: results share no memory with those of an equal call, nor with each other (R4).
func TestResultsApart(t *testing.T) {
	for range 2 {
		most, _ := chest.Most(four(2, 2, 2))
		left, _ := chest.Left(example())
		if !equal(most, lists(list(0, 2), list(1, 3))) || !slices.Equal(left, list(1, 3)) {
			t.Errorf("Most, Left: %v, %v", most, left)
		}
		most[0][0], most[1], left[0] = -7, nil, -7
	}
	want := lists(list(0, 3), list(1, 4), list(2, 5))
	for i := range want {
		most, _ := chest.Most(known(2, 0, 0, 4, 5, 6, 4, 5, 6))
		l := most[i][:cap(most[i])]
		for k := range l {
			l[k] = -7
		}
		for k := range want {
			if k != i && !slices.Equal(most[k], want[k]) {
				t.Errorf("Most: %v, but %d is written to", most, i)
			}
		}
	}
}

// TestAnyArguments: each call returns, whatever its arguments are (P1), and the call that proves says no (R11).
func TestAnyArguments(t *testing.T) {
	odd := list(0, -1, 1, 2, 3, 4, 5, 6, 7, 9, 10, 100, math.MaxInt, math.MinInt, math.MaxInt-1)
	some := lists(nil, list(), list(0), list(-1, math.MaxInt), list(0, 1), list(0, 1, 2), list(1, 3), list(2, 1), list(math.MinInt, math.MinInt, 0), make([]int, 4), make([]int, 1000))
	d := &dice{state: 9}
	pick := func() int { return odd[d.roll(0, len(odd)-1)] }
	pickList := func() []int { return some[d.roll(0, len(some)-1)] }
	for i := range 4000 {
		p := four(d.roll(2, 3), d.roll(0, 9), d.roll(0, 9))
		if i%4 > 1 {
			p.Size, p.Spread, p.Width = pick(), pick(), pick()
		}
		if i%4 == 1 {
			p.Cut.Eye = pick()
			p.Cut.Boilings[d.roll(0, 2)] = boiling(span(pick(), pick()), pick(), span(pick(), pick()))
		}
		if i%8 > 5 {
			p.Cut.Cakes = nil
			for range d.roll(0, 7) {
				p.Cut.Cakes = append(p.Cut.Cakes, look(pick(), pickList()...))
			}
		}
		a := args{one: pick(), other: pick(), cakes: pickList(), said: to(pick(), pick()), many: pick()}
		for range d.roll(0, 3) {
			a.chests = append(a.chests, pickList())
		}
		e := chest.CheckPack(p)
		for _, got := range ask(p, a) {
			proves := got.call == "ProvePack"
			if e != api.OK && (proves && got.text == "true" || !proves && (got.e != e || !got.zero)) {
				t.Errorf("%s of %v: %v, %v", got.call, p, got.text, got.e)
			}
		}
	}
}

// TestAnyOrder: looks lead to as many chests, and to the same errors, in any order (P7).
func TestAnyOrder(t *testing.T) {
	d := &dice{state: 3}
	for _, p := range append(packs(), example(), untrue()) {
		z := clone(p)
		for i := range z.Cut.Cakes {
			j := d.roll(0, i)
			z.Cut.Cakes[i], z.Cut.Cakes[j] = z.Cut.Cakes[j], z.Cut.Cakes[i]
		}
		l, e := chest.Most(p)
		m, f := chest.Most(z)
		if len(l) != len(m) || e != f {
			t.Errorf("%v: %v, %v, and with the looks in another order %v, %v", p, l, e, m, f)
		}
		k, e := chest.Left(p)
		n, f := chest.Left(z)
		if len(k) != len(n) || e != f {
			t.Errorf("%v: %v, %v are left, and with the looks in another order %v, %v", p, k, e, n, f)
		}
		for many := range 4 {
			k, e := chest.Need(p, many)
			n, f := chest.Need(z, many)
			if k != n || e != f {
				t.Errorf("%v: for %d chests %d, %v is needed, and with the looks in another order %d, %v", p, many, k, e, n, f)
			}
		}
	}
}
