package lift

import (
	"math"
	"testing"

	"hypercube/api"
	"hypercube/sample"
)

// model lifts by the tests' own rule: by the kinds' forms as package sample tells them, dimension by dimension, with numbers that have room for each sum.
type model struct {
	forms                              map[int]sample.Form
	varsFrom, varsBy, dimsFrom, dimsBy uint64
}

func (m model) term(t api.Term, vars, dims uint64) (api.Term, api.Errno) {
	out := api.Term{Kind: t.Kind, N: t.N, Name: t.Name}
	if t.Kind == api.Var && uint64(t.N) >= m.varsFrom+vars {
		n := uint64(t.N) + m.varsBy
		if n > billion {
			return out, api.ErrTerm
		}
		out.N = int(n)
	}
	var e api.Errno
	if out.R, e = m.row(t.R, dims); e != api.OK {
		return out, e
	}
	f := m.forms[t.Kind]
	if out.Kids, e = m.kids(t.Kids, f.Kids, vars, dims); e != api.OK {
		return out, e
	}
	for _, b := range t.Sys {
		if b.Face, e = m.row(b.Face, dims); e != api.OK {
			return out, e
		}
		if b.Kids, e = m.kids(b.Kids, f.Branch, vars, dims); e != api.OK {
			return out, e
		}
		out.Sys = append(out.Sys, b)
	}
	return out, api.OK
}

func (m model) kids(l []api.Term, binds string, vars, dims uint64) ([]api.Term, api.Errno) {
	var out []api.Term
	for k, t := range l {
		v, d := sample.Inside(binds[k], int(vars), int(dims))
		kid, e := m.term(t, uint64(v), uint64(d))
		if e != api.OK {
			return nil, e
		}
		out = append(out, kid)
	}
	return out, api.OK
}

func (m model) row(r row, dims uint64) (row, api.Errno) {
	var out row
	for _, c := range r {
		var up api.Clause
		for i := range uint64(api.MaxDims) {
			to := i
			if i >= m.dimsFrom+dims {
				to += m.dimsBy
			}
			p, n := c.Pos>>i&1, c.Neg>>i&1
			if to >= api.MaxDims && p+n > 0 {
				return nil, api.ErrDims
			}
			up.Pos |= p << to
			up.Neg |= n << to
		}
		out = append(out, up)
	}
	return sample.Least(out), api.OK
}

// wrongBy tells what is refused of arguments: of a term (but for how great and how deep it is), of numbers that may not be below 0, and of one that may not be too great.
func wrongBy(t api.Term, by int, others ...int) api.Errno {
	if !sample.MayBeFormed(t) {
		return api.ErrTerm
	}
	for _, n := range append(others, by) {
		if n < 0 {
			return api.ErrArg
		}
	}
	if by > 1000000 {
		return api.ErrArg
	}
	return api.OK
}

func varsModel(t api.Term, from, by int) (api.Term, api.Errno) {
	if e := wrongBy(t, by, from); e != api.OK {
		return t, e
	}
	return model{forms: sample.Forms(), varsFrom: uint64(from), varsBy: uint64(by)}.term(t, 0, 0)
}

func dimsModel(t api.Term, from, by int) (api.Term, api.Errno) {
	if e := wrongBy(t, by, from); e != api.OK {
		return t, e
	}
	return model{forms: sample.Forms(), dimsFrom: uint64(from), dimsBy: uint64(by)}.term(t, 0, 0)
}

func bothModel(t api.Term, vars, dims int) (api.Term, api.Errno) {
	if e := wrongBy(t, vars, dims); e != api.OK {
		return t, e
	}
	lifted, e := varsModel(t, 0, vars)
	if e != api.OK {
		return t, e
	}
	return dimsModel(lifted, 0, dims)
}

// P11.1, P11.2 and P11.3, by another road: terms of all kinds, and numbers at all edges.
func TestByTheModel(t *testing.T) {
	numbers := []int{0, 0, 0, 1, 1, 2, 3, 4, 5, 8, 20, 22, 23, 24, 25, 999999, 1000000, 1000001, billion - 1, billion, billion + 1, math.MaxInt - 1, math.MaxInt, -1, math.MinInt}
	seen := map[string]map[api.Errno]int{"Vars": {}, "Dims": {}, "Both": {}}
	for seed := range uint32(20000) {
		g := sample.Grow(seed)
		x := g.Term(g.Below(6), []int{0, 1, 4, 20, 23, 24}[g.Below(6)], g.Below(50))
		switch g.Below(4) {
		case 0:
			x = g.Far(x)
		case 1:
			if g.Below(4) == 0 {
				x = g.Spoilt(x)
			}
		}
		for range 4 {
			a, b := numbers[g.Below(len(numbers))], numbers[g.Below(len(numbers))]
			got, e := Vars(x, a, b)
			want, wantE := varsModel(x, a, b)
			answer(t, "Vars", got, e, want, wantE)
			seen["Vars"][e]++
			got, e = Dims(x, a, b)
			want, wantE = dimsModel(x, a, b)
			answer(t, "Dims", got, e, want, wantE)
			seen["Dims"][e]++
			got, e = Both(x, a, b)
			want, wantE = bothModel(x, a, b)
			answer(t, "Both", got, e, want, wantE)
			seen["Both"][e]++
		}
		if t.Failed() {
			t.Fatalf("the seed %d: %v", seed, x)
		}
	}
	for name, kinds := range map[string][]api.Errno{"Vars": {api.OK, api.ErrArg, api.ErrTerm}, "Dims": {api.OK, api.ErrArg, api.ErrTerm, api.ErrDims}, "Both": {api.OK, api.ErrArg, api.ErrTerm, api.ErrDims}} {
		for _, e := range kinds {
			if seen[name][e] < 500 {
				t.Errorf("%s: the answer %d was there %d times only", name, e, seen[name][e])
			}
		}
	}
}
