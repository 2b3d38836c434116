// Package sample holds what the tests of several layers are made of. No layer calls it, and it calls none: so the tests of each may.
package sample

import (
	"cmp"
	"math"
	"slices"

	"hypercube/api"
)

const (
	Full = 1<<api.MaxDims - 1 // all dimensions
	Last = 1 << (api.MaxDims - 1)
)

// Pos tells dimensions, met.
func Pos(s uint32) api.Clause { return api.Clause{Pos: s} }

// Neg tells opposites of dimensions, met.
func Neg(s uint32) api.Clause { return api.Clause{Neg: s} }

// Both tells dimensions and opposites, met.
func Both(p, n uint32) api.Clause { return api.Clause{Pos: p, Neg: n} }

// Pairs tells n clauses of two dimensions each (at most 276), of which none is below another, in the order.
func Pairs(n int) []api.Clause {
	var out []api.Clause
	for i := 0; len(out) < n; i++ {
		for k := range i {
			out = append(out, Pos(1<<i|1<<k))
		}
	}
	return out[:n]
}

// Least tells the clauses of a row that are needed, each once, in the order, however many there are: it holds each against all.
func Least(l []api.Clause) []api.Clause {
	var out []api.Clause
	for _, c := range l {
		if !slices.Contains(out, c) && !slices.ContainsFunc(l, func(d api.Clause) bool { return c != d && below(c, d) }) {
			out = append(out, c)
		}
	}
	slices.SortFunc(out, func(a, b api.Clause) int { return cmp.Or(cmp.Compare(a.Pos, b.Pos), cmp.Compare(a.Neg, b.Neg)) })
	return out
}

func below(a, b api.Clause) bool { return a.Pos&b.Pos == b.Pos && a.Neg&b.Neg == b.Neg }

// WrongFormulas tells rows that are no formulas: clauses that may not be, twice the same, out of the order, needless ones, too many.
func WrongFormulas() [][]api.Clause {
	one := api.Clause{}
	return [][]api.Clause{
		{Pos(1 << 24)}, {Neg(1 << 24)}, {Both(1, 1<<31)}, {Both(math.MaxUint32, math.MaxUint32)}, {Pos(1), Pos(2 | 1<<24)}, {Neg(1), Both(2, 1<<24)},
		{one, one}, {Pos(1), Pos(1)}, {Neg(1), Pos(1), Pos(1)}, {Both(1, 1), Both(1, 1)},
		{Pos(1), Neg(1)}, {Neg(2), Neg(1)}, {Both(1, 8), Both(1, 4)}, {Pos(2), Pos(1)}, {Both(2, 4), Pos(1)},
		{one, Pos(1)}, {Pos(1), one}, {Pos(1), Pos(3)}, {Pos(3), Pos(1)}, {Neg(1), Both(1, 1)}, {Pos(1), Both(1, 1)}, {Neg(1), Pos(2), Both(4, 1)}, {Pos(1), Pos(2), Pos(Last | 1)},
		Pairs(65), Pairs(276), append(Pairs(64), Pos(3)), append(Pairs(64), Pos(Last|3)), slices.Repeat([]api.Clause{one}, 1000),
	}
}

// Spread tells n numbers of 24 bits that follow from a seed.
func Spread(seed uint32, n int) []uint32 {
	out := make([]uint32, n)
	for k := range out {
		seed = seed*1664525 + 1013904223
		out[k] = seed >> 8
	}
	return out
}
