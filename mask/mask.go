// Package mask is layer 1: sets of dimensions as bits of a number. See shared/doc/01-mask.md.
package mask

import "hypercube/api"

// all is the set of all dimensions. A number that may not be counts as its meet with it.
const all uint32 = 1<<api.MaxDims - 1

// isDimension is asked ahead of each shift: a shift by a number below 0 would panic.
func isDimension(i int) bool { return 0 <= i && i < api.MaxDims }

// dimensions hands out all dimensions, rising.
func dimensions(yield func(int) bool) {
	for i := 0; i < api.MaxDims; i++ {
		if !yield(i) {
			return
		}
	}
}

// Right tells whether a set may be.
func Right(s uint32) bool { return s&^all == 0 }

// Has tells whether a dimension is in a set.
func Has(s uint32, i int) bool { return isDimension(i) && s>>i&1 == 1 }

// With tells a set with a dimension.
func With(s uint32, i int) uint32 {
	if !isDimension(i) {
		return s & all
	}
	return s&all | 1<<i
}

// Without tells a set without one.
func Without(s uint32, i int) uint32 {
	if !isDimension(i) {
		return s & all
	}
	return s & all &^ (1 << i)
}

// Count tells how many there are.
func Count(s uint32) int {
	n := 0
	for i := range dimensions {
		if Has(s, i) {
			n++
		}
	}
	return n
}

// List tells all.
func List(s uint32) []int {
	var list []int
	for i := range dimensions {
		if Has(s, i) {
			list = append(list, i)
		}
	}
	return list
}

// Free tells the least that is not in it.
func Free(s uint32) int {
	for i := range dimensions {
		if !Has(s, i) {
			return i
		}
	}
	return -1
}

// Lift makes those from one on greater.
func Lift(s uint32, from, by int) (uint32, api.Errno) {
	if from < 0 || by < 0 {
		return 0, api.ErrArg
	}
	var lifted uint32
	for i := range dimensions {
		switch {
		case !Has(s, i):
			continue
		case i < from:
			lifted = With(lifted, i)
		case by >= api.MaxDims-i: // not i+by, which could leave int's range
			return 0, api.ErrDims
		default:
			lifted = With(lifted, i+by)
		}
	}
	return lifted, api.OK
}

// Drop takes one out, and makes those above it less.
func Drop(s uint32, i int) uint32 {
	if !isDimension(i) {
		return s & all
	}
	var dropped uint32
	for k := range dimensions {
		switch {
		case !Has(s, k) || k == i:
			continue
		case k < i:
			dropped = With(dropped, k)
		default:
			dropped = With(dropped, k-1)
		}
	}
	return dropped
}
