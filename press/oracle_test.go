package press_test

import (
	"slices"

	"anil/beat"
	"anil/press"
	"anil/vat"
)

// What the chapter defines, once more and as directly as possible: by going through everything.

func list(l ...int) []int { return l }

func to(low, high int) press.Range { return press.Range{Lo: low, Hi: high} }

func ranges(l ...int) (out []press.Range) {
	for i := 0; i < len(l); i += 2 {
		out = append(out, to(l[i], l[i+1]))
	}
	return out
}

// fields returns ranges of package vat.
func fields(l ...int) (out []vat.Range) {
	for _, r := range ranges(l...) {
		out = append(out, vat.Range(r))
	}
	return out
}

// span returns a range of package beat.
func span(low, high int) beat.Range { return beat.Range{Lo: low, Hi: high} }

// needs returns a vat that needs so many hours of beating.
func needs(low, high, early, late int) beat.Vat {
	return beat.Vat{Needs: span(low, high), Early: early, Late: late}
}

// blueSample says how much blue a vat has.
func blueSample(v, low, high int) vat.Sample {
	return vat.Sample{Vat: v, Blue: vat.Range{Lo: low, Hi: high}}
}

// hourSample says whether a vat is done at an hour.
func hourSample(v, hour int, done bool) beat.Sample {
	return beat.Sample{Vat: v, Hour: hour, Done: done}
}

// two is the works of the chapter's examples, which have two vats.
func two() press.Works {
	return press.Works{
		Yard:    vat.Yard{Fields: fields(3, 5, 2, 3, 0, 1), Vats: [][]int{{4, 0, 2}, {1, 3, 0}}},
		Beating: beat.Beating{Sun: span(0, 1), Vats: []beat.Vat{needs(2, 4, 3, 2), needs(3, 3, 1, 5)}, Last: 6},
		Endings: list(4, 3),
		Boxes:   2, Force: 2, Last: 8, Cake: 5,
	}
}

// sampled is the works of the examples with two samples.
func sampled() press.Works {
	return changed(two(), func(w *press.Works) {
		w.Yard.Samples, w.Beating.Samples = []vat.Sample{blueSample(0, 18, 18)}, []beat.Sample{hourSample(0, 3, false)}
	})
}

// noBlues has a yard that has no truth, noCourse a beating that has none.
func noBlues() press.Works {
	return changed(two(), func(w *press.Works) { w.Yard.Samples = []vat.Sample{blueSample(1, 0, 8)} })
}

func noCourse() press.Works {
	return changed(two(), func(w *press.Works) { w.Beating.Samples = []beat.Sample{hourSample(1, 2, true)} })
}

// known has vats of which the muds are these, surely; each is from 0 to 99.
func known(boxes, force int, muds ...int) press.Works {
	w := press.Works{Yard: vat.Yard{Fields: fields(10, 10, 1, 1)}, Boxes: boxes, Force: force, Cake: 1}
	for _, n := range muds {
		w.Yard.Vats = append(w.Yard.Vats, list(n/10, n%10))
		w.Beating.Vats = append(w.Beating.Vats, beat.Vat{})
		w.Endings = append(w.Endings, 0)
	}
	return w
}

// seesaw has two vats of which one has the mud 10 and the other one 1, but which one is not known.
func seesaw(boxes int) press.Works {
	w := known(boxes, 1, 10, 10)
	w.Beating = beat.Beating{Sun: span(0, 1), Vats: []beat.Vat{needs(3, 3, 0, 9), needs(4, 4, 9, 0)}, Last: 4}
	w.Endings = list(4, 4)
	return w
}

// largest has as much of everything as the limits allow, and 6000 two truths, of which the yard has 2000.
func largest() press.Works {
	return press.Works{
		Yard: vat.Yard{
			Fields:  fields(10, 19, 11, 20, 16, 20, 17, 20, 20, 20),
			Vats:    [][]int{{9, 9, 9, 9, 9}, {1, 2, 3, 4, 5}, {9, 0, 1, 0, 9}},
			Samples: []vat.Sample{blueSample(0, 0, 999), blueSample(1, 0, 290), blueSample(1, 200, 999), blueSample(2, 290, 380), blueSample(2, 0, 999)},
		},
		Beating: beat.Beating{Sun: span(4, 4), Vats: []beat.Vat{needs(0, 2, 20, 20), needs(9, 9, 20, 20), needs(1, 1, 20, 20)}, Last: 9, Samples: slices.Repeat([]beat.Sample{hourSample(1, 9, false)}, 5)},
		Endings: list(5, 9, 0), Boxes: 3, Force: 1, Last: 99, Cake: 50,
	}
}

// beaten has 6000 two truths, of which the beating has 200.
func beaten() press.Works {
	return press.Works{
		Yard:    vat.Yard{Fields: fields(3, 8, 0, 4), Vats: [][]int{{2, 1}, {0, 5}, {3, 0}}},
		Beating: beat.Beating{Sun: span(0, 3), Vats: []beat.Vat{needs(0, 9, 2, 1), needs(2, 6, 1, 3), needs(5, 5, 3, 0)}, Last: 9},
		Endings: list(5, 4, 7), Boxes: 2, Force: 1, Last: 9, Cake: 3,
	}
}

func clone(w press.Works) press.Works {
	w.Yard.Fields, w.Yard.Vats, w.Yard.Samples = slices.Clone(w.Yard.Fields), slices.Clone(w.Yard.Vats), slices.Clone(w.Yard.Samples)
	for v, bundles := range w.Yard.Vats {
		w.Yard.Vats[v] = slices.Clone(bundles)
	}
	w.Beating.Vats, w.Beating.Samples = slices.Clone(w.Beating.Vats), slices.Clone(w.Beating.Samples)
	w.Endings = slices.Clone(w.Endings)
	return w
}

// changed returns the works with a change, which leaves the works themselves as they are.
func changed(w press.Works, change func(w *press.Works)) press.Works {
	w = clone(w)
	change(&w)
	return w
}

// withBoxes returns the works with other Boxes.
func withBoxes(w press.Works, boxes int) press.Works {
	w.Boxes = boxes
	return w
}

// ended returns the works with other Endings.
func ended(w press.Works, endings ...int) press.Works {
	w.Endings = endings
	return w
}

// allChoices returns all lists with one number of each range, lexicographically.
func allChoices(l []press.Range) [][]int {
	out := [][]int{{}}
	for _, r := range l {
		var next [][]int
		for _, c := range out {
			for n := r.Lo; n <= r.Hi; n++ {
				next = append(next, append(slices.Clone(c), n))
			}
		}
		out = next
	}
	return out
}

// allBlues returns the blue of each vat in each truth of the yard.
func allBlues(y vat.Yard) (out [][]int) {
	var all []press.Range
	for _, f := range y.Fields {
		all = append(all, press.Range(f))
	}
	for _, blues := range allChoices(all) {
		if vat.ProveTruth(y, blues) {
			blue, _ := vat.Play(y, blues)
			out = append(out, blue)
		}
	}
	return out
}

// allCourses returns all truths of the beating.
func allCourses(b beat.Beating) (out []beat.Course) {
	all := []press.Range{press.Range(b.Sun)}
	for _, v := range b.Vats {
		all = append(all, press.Range(v.Needs))
	}
	for _, l := range allChoices(all) {
		if c := (beat.Course{Sun: l[0], Needs: l[1:]}); beat.ProveTruth(b, c) {
			out = append(out, c)
		}
	}
	return out
}

// allMuds returns the mud of each vat in each two truths.
func allMuds(w press.Works) [][]int { return mudsOf(w, allBlues(w.Yard)) }

// mudsOf is allMuds, if the blue of each vat in each truth of the yard is known.
func mudsOf(w press.Works, blues [][]int) (out [][]int) {
	var losses [][]int
	for _, c := range allCourses(w.Beating) {
		lost, _ := beat.Play(w.Beating, c, w.Endings)
		losses = append(losses, lost)
	}
	for _, blue := range blues {
		for _, lost := range losses {
			muds := []int{}
			for v := range blue {
				muds = append(muds, max(blue[v]-lost[v], 0))
			}
			out = append(out, muds)
		}
	}
	return out
}

// pressedIn returns how much is pressed in the hours from 1 to n.
func pressedIn(force, n int) int {
	sum := 0
	for k := 1; k <= n; k++ {
		sum += force * k
	}
	return sum
}

// wantHours returns the hours that the mud needs.
func wantHours(w press.Works, mud int) int {
	n := 0
	for pressedIn(w.Force, n) < mud {
		n++
	}
	return n
}

// wantCakes returns the cakes that the mud makes.
func wantCakes(w press.Works, mud int) int {
	n := 0
	for (n+1)*w.Cake <= mud {
		n++
	}
	return n
}

// wantPressed returns when each vat is pressed by the plan, if it has this mud.
func wantPressed(w press.Works, plan, muds []int) []int {
	out := []int{}
	for v := range muds {
		sum := 0
		for u := 0; u <= v; u++ {
			if plan[u] == plan[v] {
				sum += wantHours(w, muds[u])
			}
		}
		out = append(out, sum)
	}
	return out
}

// ends returns the ranges of the numbers that lists have at the same index.
func ends(all [][]int) (out []press.Range) {
	for i := range all[0] {
		r := to(all[0][i], all[0][i])
		for _, l := range all {
			r = to(min(r.Lo, l[i]), max(r.Hi, l[i]))
		}
		out = append(out, r)
	}
	return out
}

// each returns for each list what becomes of each of its numbers.
func each(all [][]int, become func(n int) int) (out [][]int) {
	for _, l := range all {
		made := []int{}
		for _, n := range l {
			made = append(made, become(n))
		}
		out = append(out, made)
	}
	return out
}

// wantPlay returns the range of when each vat is pressed by the plan, if muds has what can be so.
func wantPlay(w press.Works, muds [][]int, plan []int) []press.Range {
	var all [][]int
	for _, m := range muds {
		all = append(all, wantPressed(w, plan, m))
	}
	return ends(all)
}

// wantEnding returns the ending of the plan.
func wantEnding(w press.Works, muds [][]int, plan []int) int {
	last := 0
	for _, r := range wantPlay(w, muds, plan) {
		last = max(last, r.Hi)
	}
	return last
}

// wantLate returns the first vat that may be too late; false if there is none.
func wantLate(w press.Works, muds [][]int, plan []int) (int, bool) {
	for v, r := range wantPlay(w, muds, plan) {
		if r.Hi > w.Last {
			return v, true
		}
	}
	return 0, false
}

// allPlans returns all plans, lexicographically.
func allPlans(w press.Works) [][]int {
	return allChoices(slices.Repeat([]press.Range{to(0, w.Boxes-1)}, len(w.Endings)))
}

// wantBest returns the best plan, and its ending.
func wantBest(w press.Works, muds [][]int) (best []int, ending int) {
	for i, plan := range allPlans(w) {
		if n := wantEnding(w, muds, plan); i == 0 || n < ending {
			best, ending = plan, n
		}
	}
	return best, ending
}

// sureMuds returns the sure mud of each vat with each hour as its ending.
func sureMuds(w press.Works) [][]int {
	out := make([][]int, len(w.Endings))
	blues := allBlues(w.Yard)
	for v := range out {
		for hour := 0; hour <= w.Beating.Last; hour++ {
			w.Endings = slices.Clone(w.Endings)
			w.Endings[v] = hour
			out[v] = append(out[v], ends(mudsOf(w, blues))[v].Lo)
		}
	}
	return out
}

// dice makes numbers that look mixed, and are the same whenever the tests run.
type dice struct{ state uint64 }

// roll returns a number from low to high.
func (d *dice) roll(low, high int) int {
	d.state = d.state*6364136223846793005 + 1442695040888963407
	return low + int(d.state>>33)%(high-low+1)
}

// near returns a range of one number or some more from n on, up to most, if the room still has them.
func (d *dice) near(n, most int, room *int) press.Range {
	wide := d.roll(1, 3)
	if wide > *room || n+wide-1 > most {
		return to(n, n)
	}
	*room /= wide
	return to(n, n+wide-1)
}

// worksList returns small works of all shapes.
func worksList() (out []press.Works) {
	d := &dice{state: 1}
	for i := range 130 {
		out = append(out, mixedWorks(d, i%4, i/4%4))
	}
	for i := range 30 {
		out = append(out, swaying(d, 2+i%2))
	}
	return append(out, two(), sampled(), seesaw(1), seesaw(2), known(2, 1, 6, 3, 10), known(1, 9), known(3, 2, 0, 99))
}

// mixedWorks returns works with truths, of which there are at most 16 times 16.
func mixedWorks(d *dice, vats, many int) press.Works {
	w := press.Works{Boxes: d.roll(1, 3), Force: d.roll(1, 3), Last: d.roll(0, 9), Cake: d.roll(1, 12)}
	room := 16
	for range many {
		w.Yard.Fields = append(w.Yard.Fields, vat.Range(d.near(d.roll(0, 7), 20, &room)))
	}
	room = 16
	w.Beating = beat.Beating{Sun: beat.Range(d.near(d.roll(0, 2), 4, &room)), Last: d.roll(0, 9)}
	for range vats {
		bundles := []int{}
		for range many {
			bundles = append(bundles, max(0, d.roll(-1, 5)))
		}
		w.Yard.Vats = append(w.Yard.Vats, bundles)
		w.Beating.Vats = append(w.Beating.Vats, beat.Vat{Needs: beat.Range(d.near(d.roll(0, 5), 9, &room)), Early: max(0, d.roll(-2, 5)), Late: max(0, d.roll(-2, 5))})
		w.Endings = append(w.Endings, d.roll(0, w.Beating.Last))
	}
	for range d.roll(0, 2) {
		w = sampledOnce(d, w)
	}
	return w
}

// swaying returns works in which one vat has most mud when another one has least, as some lose by the sun, and others without it.
func swaying(d *dice, vats int) press.Works {
	w := press.Works{Yard: vat.Yard{Fields: fields(2, 4)}, Boxes: d.roll(1, 3), Force: d.roll(1, 2), Last: d.roll(2, 9), Cake: d.roll(1, 9)}
	w.Beating = beat.Beating{Sun: span(0, d.roll(2, 4)), Last: 9}
	for v := range vats {
		w.Yard.Vats = append(w.Yard.Vats, list(d.roll(3, 6)))
		w.Endings = append(w.Endings, d.roll(4, 5))
		if (v+d.roll(0, 4))%2 == 0 {
			w.Beating.Vats = append(w.Beating.Vats, needs(5, 5, d.roll(2, 4), 0))
		} else {
			w.Beating.Vats = append(w.Beating.Vats, needs(0, 1, 0, d.roll(2, 4)))
		}
	}
	return w
}

// sampledOnce returns the works with one more sample of the Yard, and one of the Beating, where these leave truths.
func sampledOnce(d *dice, w press.Works) press.Works {
	if len(w.Endings) == 0 {
		return w
	}
	v := d.roll(0, len(w.Endings)-1)
	low := d.roll(0, 40)
	for _, z := range []press.Works{withBlue(w, blueSample(v, low, low+d.roll(5, 40))), withHour(w, hourSample(v, d.roll(0, w.Beating.Last), d.roll(0, 1) == 0))} {
		if len(allMuds(z)) > 0 && d.roll(0, 1) == 0 {
			w = z
		}
	}
	return w
}

// withBlue returns the works with one more sample of the Yard.
func withBlue(w press.Works, s vat.Sample) press.Works {
	return changed(w, func(w *press.Works) { w.Yard.Samples = append(w.Yard.Samples, s) })
}

// withHour returns the works with one more sample of the Beating.
func withHour(w press.Works, s beat.Sample) press.Works {
	return changed(w, func(w *press.Works) { w.Beating.Samples = append(w.Beating.Samples, s) })
}
