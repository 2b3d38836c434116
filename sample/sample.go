// Package sample holds what the tests of several layers are made of. No layer calls it, and it calls none: so the tests of each may.
package sample

import (
	"cmp"
	"math"
	"slices"

	"hypercube/api"
)

const (
	Full = 1<<api.MaxDims - 1 // all dimensions
	Last = 1 << (api.MaxDims - 1)
)

// Pos tells dimensions, met.
func Pos(s uint32) api.Clause { return api.Clause{Pos: s} }

// Neg tells opposites of dimensions, met.
func Neg(s uint32) api.Clause { return api.Clause{Neg: s} }

// Both tells dimensions and opposites, met.
func Both(p, n uint32) api.Clause { return api.Clause{Pos: p, Neg: n} }

// Pairs tells n clauses of two dimensions each (at most 276), of which none is below another, in the order.
func Pairs(n int) []api.Clause {
	var out []api.Clause
	for i := 0; len(out) < n; i++ {
		for k := range i {
			out = append(out, Pos(1<<i|1<<k))
		}
	}
	return out[:n]
}

// Singles tells the dimensions from one on, ahead of another, each as a clause of its own.
func Singles(from, to int) []api.Clause {
	var out []api.Clause
	for i := from; i < to; i++ {
		out = append(out, Pos(1<<i))
	}
	return out
}

// Bits tells the set of the dimensions from one on, ahead of another.
func Bits(from, to int) uint32 { return 1<<to - 1<<from }

// Met tells each clause of a row met with one more.
func Met(l []api.Clause, c api.Clause) []api.Clause {
	out := make([]api.Clause, len(l))
	for k, a := range l {
		out[k] = Both(a.Pos|c.Pos, a.Neg|c.Neg)
	}
	return out
}

// Least tells the clauses of a row that are needed, each once, in the order, however many there are: it holds each against all.
func Least(l []api.Clause) []api.Clause {
	var out []api.Clause
	for _, c := range l {
		if !slices.Contains(out, c) && !slices.ContainsFunc(l, func(d api.Clause) bool { return c != d && below(c, d) }) {
			out = append(out, c)
		}
	}
	slices.SortFunc(out, func(a, b api.Clause) int { return cmp.Or(cmp.Compare(a.Pos, b.Pos), cmp.Compare(a.Neg, b.Neg)) })
	return out
}

func below(a, b api.Clause) bool { return a.Pos&b.Pos == b.Pos && a.Neg&b.Neg == b.Neg }

// WrongFormulas tells rows that are no formulas: clauses that may not be, twice the same, out of the order, needless ones, too many.
func WrongFormulas() [][]api.Clause {
	one := api.Clause{}
	return [][]api.Clause{
		{Pos(1 << 24)}, {Neg(1 << 24)}, {Both(1, 1<<31)}, {Both(math.MaxUint32, math.MaxUint32)}, {Pos(1), Pos(2 | 1<<24)}, {Neg(1), Both(2, 1<<24)},
		{one, one}, {Pos(1), Pos(1)}, {Neg(1), Pos(1), Pos(1)}, {Both(1, 1), Both(1, 1)},
		{Pos(1), Neg(1)}, {Neg(2), Neg(1)}, {Both(1, 8), Both(1, 4)}, {Pos(2), Pos(1)}, {Both(2, 4), Pos(1)},
		{one, Pos(1)}, {Pos(1), one}, {Pos(1), Pos(3)}, {Pos(3), Pos(1)}, {Neg(1), Both(1, 1)}, {Pos(1), Both(1, 1)}, {Neg(1), Pos(2), Both(4, 1)}, {Pos(1), Pos(2), Pos(Last | 1)},
		Pairs(65), Pairs(276), append(Pairs(64), Pos(3)), append(Pairs(64), Pos(Last|3)), slices.Repeat([]api.Clause{one}, 1000),
	}
}

// WrongFaces tells rows that are no faces: those that are no formulas, and formulas with a clause that clashes.
func WrongFaces() [][]api.Clause {
	return append(WrongFormulas(), [][]api.Clause{
		{Both(1, 1)}, {Both(Last, Last)}, {Both(Full, Full)}, {Both(3, 6)},
		{Both(1, 1), Pos(2)}, {Neg(2), Both(1, 1)}, {Neg(4), Both(1, 1), Pos(2)}, append(Pairs(63), Both(Last, Last)),
	}...)
}

// NoDimensions tells numbers that are no dimensions.
func NoDimensions() []int { return []int{-1, 24, 25, 31, 32, 64, math.MaxInt, math.MinInt} }

// OnTwo tells all formulas on two dimensions: those that rows of the 16 clauses make, each once.
func OnTwo(i, j int) [][]api.Clause {
	set := func(two int) uint32 { return uint32(two&1)<<i | uint32(two>>1)<<j }
	var out [][]api.Clause
	for chosen := range 1 << 16 {
		var l []api.Clause
		for c := range 16 {
			if chosen>>c&1 == 1 {
				l = append(l, Both(set(c&3), set(c>>2)))
			}
		}
		if f := Least(l); len(f) == len(l) {
			out = append(out, f)
		}
	}
	return out
}

// Formulas tells formulas of at most six clauses on a set of dimensions, one for each seed.
func Formulas(seeds, dims uint32) [][]api.Clause {
	var out [][]api.Clause
	for seed := range seeds {
		n := int(seed % 7)
		s := Spread(seed*2654435761+dims, 4*n)
		var l []api.Clause
		for k := range n {
			l = append(l, Both(s[4*k]&s[4*k+1]&dims, s[4*k+2]&s[4*k+3]&dims))
		}
		out = append(out, Least(l))
	}
	return out
}

// Great tells formulas of all sizes on the dimensions up to one, with few literals to a clause or with many.
func Great(seeds, dims uint32) [][]api.Clause {
	var out [][]api.Clause
	for seed := range seeds {
		n := int(seed % 9)
		if seed%13 == 0 {
			n = 100
		}
		s := Spread(seed*dims, 4*n)
		var l []api.Clause
		for k := range n {
			four := s[4*k:]
			c := Both(four[0]&four[1], four[2]&four[3])
			if seed%2 == 0 {
				c = Both(four[0]&four[1]&four[2], four[3]&four[2]&(four[0]>>1))
			}
			l = append(l, Both(c.Pos&(1<<dims-1), c.Neg&(1<<dims-1)))
		}
		if f := Least(l); len(f) <= api.MaxClauses {
			out = append(out, f)
		}
	}
	return out
}

// Spread tells n numbers of 24 bits that follow from a seed.
func Spread(seed uint32, n int) []uint32 {
	out := make([]uint32, n)
	for k := range out {
		seed = seed*1664525 + 1013904223
		out[k] = seed >> 8
	}
	return out
}
