package beat_test

import (
	"slices"

	"anil/beat"
)

// What the chapter defines, once more and as directly as possible: by going through everything.

const always, never, perhaps = beat.Always, beat.Never, beat.Perhaps

func list(l ...int) []int { return l }

func to(low, high int) beat.Range { return beat.Range{Lo: low, Hi: high} }

func ranges(l ...int) (out []beat.Range) {
	for i := 0; i < len(l); i += 2 {
		out = append(out, to(l[i], l[i+1]))
	}
	return out
}

func vat(low, high, early, late int) beat.Vat {
	return beat.Vat{Needs: to(low, high), Early: early, Late: late}
}

func sample(in, hour int, done bool) beat.Sample {
	return beat.Sample{Vat: in, Hour: hour, Done: done}
}

// is says that the vat is done at the hour, not that it is not.
func is(in, hour int) beat.Sample  { return sample(in, hour, true) }
func not(in, hour int) beat.Sample { return sample(in, hour, false) }

// two is the beating of the chapter's examples, with samples.
func two(l ...beat.Sample) beat.Beating {
	return beat.Beating{Sun: to(0, 1), Vats: []beat.Vat{vat(2, 4, 3, 2), vat(3, 3, 1, 5)}, Last: 6, Samples: l}
}

// untrue has no truth, though it is valid.
func untrue() beat.Beating { return two(not(1, 3), is(0, 2)) }

// largest has as much of everything as the limits allow, and 200 courses.
func largest(l ...beat.Sample) beat.Beating {
	return beat.Beating{Sun: to(0, 4), Vats: []beat.Vat{vat(0, 9, 20, 20), vat(6, 9, 20, 0), vat(9, 9, 7, 20)}, Last: 9, Samples: l}
}

func clone(b beat.Beating) beat.Beating {
	b.Vats, b.Samples = slices.Clone(b.Vats), slices.Clone(b.Samples)
	return b
}

// with returns the beating with more samples behind its own.
func with(b beat.Beating, more ...beat.Sample) beat.Beating {
	b = clone(b)
	b.Samples = append(b.Samples, more...)
	return b
}

// without returns the beating without the samples of the list.
func without(b beat.Beating, out []int) beat.Beating {
	all := b.Samples
	b = clone(b)
	b.Samples = nil
	for i, x := range all {
		if !slices.Contains(out, i) {
			b.Samples = append(b.Samples, x)
		}
	}
	return b
}

func course(sun int, needs ...int) beat.Course { return beat.Course{Sun: sun, Needs: needs} }

// allChoices returns all lists with one number of each range, lexicographically.
func allChoices(l []beat.Range) [][]int {
	out := [][]int{{}}
	for _, r := range l {
		var next [][]int
		for _, c := range out {
			for n := r.Lo; n <= r.Hi; n++ {
				next = append(next, append(slices.Clone(c), n))
			}
		}
		out = next
	}
	return out
}

func allCourses(b beat.Beating) (out []beat.Course) {
	var needs []beat.Range
	for _, v := range b.Vats {
		needs = append(needs, v.Needs)
	}
	for n := b.Sun.Lo; n <= b.Sun.Hi; n++ {
		for _, l := range allChoices(needs) {
			out = append(out, course(n, l...))
		}
	}
	return out
}

// allEndings returns all endings, lexicographically.
func allEndings(b beat.Beating) [][]int {
	return allChoices(slices.Repeat(ranges(0, b.Last), len(b.Vats)))
}

func doneIn(c beat.Course, in int) int { return c.Needs[in] + c.Sun }

// wrongIn returns the samples that are not right in the course.
func wrongIn(b beat.Beating, c beat.Course) (out []int) {
	for i, x := range b.Samples {
		if x.Done != (x.Hour >= doneIn(c, x.Vat)) {
			out = append(out, i)
		}
	}
	return out
}

func truthsOf(b beat.Beating) (out []beat.Course) {
	for _, c := range allCourses(b) {
		if len(wrongIn(b, c)) == 0 {
			out = append(out, c)
		}
	}
	return out
}

func wantBounds(b beat.Beating, truths []beat.Course) (out []beat.Range) {
	for v := range b.Vats {
		var all []int
		for _, c := range truths {
			all = append(all, doneIn(c, v))
		}
		out = append(out, to(slices.Min(all), slices.Max(all)))
	}
	return out
}

func wantDone(truths []beat.Course, in, hour int) int {
	n := 0
	for _, c := range truths {
		if hour >= doneIn(c, in) {
			n++
		}
	}
	switch n {
	case 0:
		return never
	case len(truths):
		return always
	}
	return perhaps
}

// lostIn returns what the vat loses, hour by hour.
func lostIn(b beat.Beating, c beat.Course, in, ending int) int {
	sum := 0
	for h := ending; h < doneIn(c, in); h++ {
		sum += b.Vats[in].Early
	}
	for h := doneIn(c, in); h < ending; h++ {
		sum += b.Vats[in].Late
	}
	return sum
}

func wantLosses(b beat.Beating, truths []beat.Course, endings []int) beat.Range {
	var all []int
	for _, c := range truths {
		sum := 0
		for v, hour := range endings {
			sum += lostIn(b, c, v, hour)
		}
		all = append(all, sum)
	}
	return to(slices.Min(all), slices.Max(all))
}

func wantBest(b beat.Beating, truths []beat.Course) (best []int, worst int) {
	for i, l := range allEndings(b) {
		if n := wantLosses(b, truths, l).Hi; i == 0 || n < worst {
			best, worst = l, n
		}
	}
	return best, worst
}

// wantLeft returns what a sample of the vat at the hour leaves.
func wantLeft(b beat.Beating, truths []beat.Course, in, hour int) int {
	var yes, no []beat.Course
	for _, c := range truths {
		if hour >= doneIn(c, in) {
			yes = append(yes, c)
		} else {
			no = append(no, c)
		}
	}
	left := 0
	for _, some := range [][]beat.Course{yes, no} {
		if len(some) > 0 {
			_, n := wantBest(b, some)
			left = max(left, n)
		}
	}
	return left
}

func wantAsk(b beat.Beating, truths []beat.Course) (in, hour, left int) {
	for v := range b.Vats {
		for h := 0; h <= b.Last; h++ {
			if n := wantLeft(b, truths, v, h); v == 0 && h == 0 || n < left {
				in, hour, left = v, h, n
			}
		}
	}
	return in, hour, left
}

// allSets returns all increasing lists of samples, the shorter ones first, those as long lexicographically.
func allSets(samples int) (out [][]int) {
	for bits := range 1 << samples {
		set := []int{}
		for i := range samples {
			if bits>>i&1 == 1 {
				set = append(set, i)
			}
		}
		out = append(out, set)
	}
	slices.SortFunc(out, func(a, b []int) int {
		if len(a) != len(b) {
			return len(a) - len(b)
		}
		return slices.Compare(a, b)
	})
	return out
}

func wantLeave(b beat.Beating) []int {
	for _, set := range allSets(len(b.Samples)) {
		if len(truthsOf(without(b, set))) > 0 {
			return set
		}
	}
	return nil
}

// wantFirst returns the first wrong sample; false if there is none.
func wantFirst(b beat.Beating) (int, bool) {
	for n := range b.Samples {
		z := clone(b)
		z.Samples = z.Samples[:n+1]
		if len(truthsOf(z)) == 0 {
			return n, true
		}
	}
	return 0, false
}

// allSamples returns all samples that there can be, right or not.
func allSamples(b beat.Beating) (out []beat.Sample) {
	for v := range b.Vats {
		for h := 0; h <= b.Last; h++ {
			out = append(out, not(v, h), is(v, h))
		}
	}
	return out
}

// dice makes numbers that look mixed, and are the same whenever the tests run.
type dice struct{ state uint64 }

// roll returns a number from low to high.
func (d *dice) roll(low, high int) int {
	d.state = d.state*6364136223846793005 + 1442695040888963407
	return low + int(d.state>>33)%(high-low+1)
}

// around returns a range of one to three numbers near n, from 0 to most.
func (d *dice) around(n, most int) beat.Range {
	low := min(max(0, n), most)
	return to(low, min(low+d.roll(0, 2), most))
}

// beatings returns small beatings of all shapes; with about a third of them a sample or more is false.
func beatings() (out []beat.Beating) {
	d := &dice{state: 1}
	for i := range 240 {
		b := mixedBeating(d, i%6, i/6%4)
		for range i % 5 {
			b.Samples = append(b.Samples, mixedSamples(d, b)...)
		}
		out = append(out, b)
	}
	// Some with samples that contradict each other in many ways.
	for range 40 {
		b := mixedBeating(d, 4, 3)
		all := allSamples(b)
		for range 5 {
			b.Samples = append(b.Samples, all[d.roll(0, len(all)-1)])
		}
		out = append(out, b)
	}
	return out
}

// mixedBeating returns a beating without samples; most of its vats can be done by the hour last.
func mixedBeating(d *dice, last, vats int) beat.Beating {
	b := beat.Beating{Sun: d.around(d.roll(-1, 2), 4), Last: last}
	for range vats {
		v := beat.Vat{Needs: d.around(d.roll(0, last+1)-b.Sun.Lo, 9), Early: d.roll(0, 5), Late: d.roll(0, 5)}
		if d.roll(0, 9) == 0 {
			v.Early, v.Late = 20*d.roll(0, 1), 20*d.roll(0, 1)
		}
		b.Vats = append(b.Vats, v)
	}
	return b
}

// mixedSamples returns one sample that is mostly right in the same course, or none if there is no vat.
func mixedSamples(d *dice, b beat.Beating) []beat.Sample {
	if len(b.Vats) == 0 {
		return nil
	}
	all := allCourses(b)
	in, hour := d.roll(0, len(b.Vats)-1), d.roll(0, b.Last)
	done := hour >= doneIn(all[len(all)/2], in)
	if d.roll(0, 4) == 0 {
		done = !done
	}
	return []beat.Sample{sample(in, hour, done)}
}
