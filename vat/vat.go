// Package vat is layer 1: it knows how much blue there is in vats full of leaves, within bounds.
package vat

import (
	"slices"

	"anil/api"
)

// Range has all whole numbers from Lo to Hi.
type Range struct{ Lo, Hi int }

// Sample says that the blue of a vat is in a range. It may be false.
type Sample struct {
	Vat  int
	Blue Range
}

// Yard has the blue of a bundle of each field, how many bundles of each field are in each vat, and samples.
type Yard struct {
	Fields  []Range
	Vats    [][]int
	Samples []Sample
}

// Verdicts: whether something is so in each truth, in none, or in some alone.
const (
	Always  = 1
	Never   = 2
	Perhaps = 3
)

// CheckYard returns the error of the yard, or OK.
func CheckYard(y Yard) api.Errno {
	w := work{Yard: y}
	switch {
	case len(y.Fields) > api.MaxVatFields || len(y.Vats) > api.MaxVatVats || len(y.Samples) > api.MaxVatSamples:
		return api.ErrLimit
	case !every(y.Fields, isField) || !every(y.Vats, w.isVat) || !every(y.Samples, w.isSample):
		return api.ErrArg
	case w.size() > api.MaxVatTruths:
		return api.ErrLimit
	}
	return api.OK
}

// Play returns the blue of each vat with the blues.
func Play(y Yard, list []int) ([]int, api.Errno) {
	if e := CheckYard(y); e != api.OK {
		return nil, e
	}
	w := work{Yard: y}
	b, ok := w.toBlues(list)
	if !ok {
		return nil, api.ErrRange
	}
	out := make([]int, len(w.Vats))
	for v := range len(w.Vats) {
		out[v] = w.inVat(b, v)
	}
	return out, api.OK
}

// Bounds returns the range of the blue of each vat in all truths.
func Bounds(y Yard) ([]Range, api.Errno) {
	w, e := openTrue(y)
	if e != api.OK {
		return nil, e
	}
	return measure{work.inVat}.bounds(w, len(w.Vats)), api.OK
}

// Fields returns the range of the blue of a bundle of each field in all truths.
func Fields(y Yard) ([]Range, api.Errno) {
	w, e := openTrue(y)
	if e != api.OK {
		return nil, e
	}
	return measure{work.inBundle}.bounds(w, len(w.Fields)), api.OK
}

// More returns whether the vat one has more blue than the other one: Always, Never or Perhaps.
func More(y Yard, one, other int) (int, api.Errno) {
	w, e := open(y)
	switch {
	case e != api.OK:
		return 0, e
	case !w.hasVat(one) || !w.hasVat(other):
		return 0, api.ErrRange
	case one == other:
		return 0, api.ErrTwice
	case len(w.truths) == 0:
		return 0, api.ErrFalse
	}
	more := 0
	for _, t := range w.truths {
		if w.inVat(t, one) > w.inVat(t, other) {
			more++
		}
	}
	switch more {
	case 0:
		return Never, api.OK
	case len(w.truths):
		return Always, api.OK
	}
	return Perhaps, api.OK
}

// Ask returns the vat to sample, and what a sample of it leaves.
func Ask(y Yard) (vat, left int, e api.Errno) {
	w, e := openTrue(y)
	if e != api.OK {
		return 0, 0, e
	}
	if len(w.Vats) == 0 {
		return 0, 0, api.ErrNone
	}
	leaves := w.leaves()
	left = minimum(leaves[0], leaves[1:]...)
	return slices.Index(leaves, left), left, api.OK
}

// Needs returns the fewest further bundles of the field with which the vat surely has the blue.
func Needs(y Yard, vat, field, blue int) (int, api.Errno) {
	w, e := open(y)
	switch {
	case e != api.OK:
		return 0, e
	case !w.hasVat(vat) || !w.hasField(field) || blue < 0 || blue > api.MaxVatMost:
		return 0, api.ErrRange
	case len(w.truths) == 0:
		return 0, api.ErrFalse
	}
	n := 0
search:
	for {
		switch {
		case w.sureBlue(vat, field, n) >= blue:
			break search
		case n == api.MaxVatFurther:
			return 0, api.ErrShort
		}
		n++
	}
	return n, api.OK
}

// Spread returns the best spread of so many further bundles of the field, and its least blue.
func Spread(y Yard, field, many int) (put []int, least int, e api.Errno) {
	w, e := open(y)
	switch {
	case e != api.OK:
		return nil, 0, e
	case !w.hasField(field) || !isFurther(many):
		return nil, 0, api.ErrRange
	case len(w.truths) == 0:
		return nil, 0, api.ErrFalse
	case len(w.Vats) == 0:
		return nil, 0, api.ErrNone
	}
	best, least := w.bestSpread(field, many)
	return slices.Clone(best[:len(w.Vats)]), least, api.OK
}

// First returns the first wrong sample.
func First(y Yard) (int, api.Errno) {
	if e := CheckYard(y); e != api.OK {
		return 0, e
	}
	first := 0
	w := work{Yard: y}
	for b := range w.allBlues() {
		wrong := w.wrongSamples(b)
		if len(wrong) == 0 {
			return 0, api.ErrNone
		}
		first = max(first, wrong[0])
	}
	return first, api.OK
}

// Leave returns the smallest set of samples that can be left out.
func Leave(y Yard) ([]int, api.Errno) {
	if e := CheckYard(y); e != api.OK {
		return nil, e
	}
	// All samples together can be left out, and no set is longer.
	least := make([]int, len(y.Samples))
	for s := range len(y.Samples) {
		least[s] = s
	}
	w := work{Yard: y}
	for b := range w.allBlues() {
		if wrong := w.wrongSamples(b); isBefore(wrong, least) {
			least = wrong
		}
	}
	return least, api.OK
}

// ProveTruth reports whether the yard is valid, and the list is a truth of it.
func ProveTruth(y Yard, list []int) bool {
	w, e := open(y)
	if e != api.OK {
		return false
	}
	b, ok := w.toBlues(list)
	return ok && slices.Contains(w.truths, b)
}

// ProveSpread reports whether the list is a spread of bundles of the field whose least blue is at least the last argument.
func ProveSpread(y Yard, field int, put []int, least int) bool {
	w, e := openTrue(y)
	if e != api.OK || len(w.Vats) == 0 || !w.hasField(field) {
		return false
	}
	if len(put) != len(w.Vats) || !every(put, isFurther) {
		return false
	}
	for v := range len(w.Vats) {
		if w.sureBlue(v, field, put[v]) < least {
			return false
		}
	}
	return true
}
