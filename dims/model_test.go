package dims

import (
	"math/bits"
	"testing"

	"hypercube/api"
	"hypercube/face"
	"hypercube/formula"
	"hypercube/sample"
)

// model goes over a term by the tests' own rule: by the kinds' forms as package sample tells them.
type model struct {
	forms map[int]sample.Form
	row   func(r row, isFace bool, behind int) (row, api.Errno)
}

func (m model) term(t api.Term, behind int) (api.Term, api.Errno) {
	f := m.forms[t.Kind]
	var e api.Errno
	if t.R, e = m.row(t.R, f.Face, behind); e != api.OK {
		return t, e
	}
	if t.Kids, e = m.kids(t.Kids, f.Kids, behind); e != api.OK {
		return t, e
	}
	var sys []api.Branch
	for _, b := range t.Sys {
		if b.Face, e = m.row(b.Face, true, behind); e != api.OK {
			return t, e
		}
		if len(b.Face) == 0 {
			continue
		}
		if b.Kids, e = m.kids(b.Kids, f.Branch, behind); e != api.OK {
			return t, e
		}
		sys = append(sys, b)
	}
	t.Sys = sys
	return t, api.OK
}

func (m model) kids(l []api.Term, binds string, behind int) ([]api.Term, api.Errno) {
	var out []api.Term
	for k, t := range l {
		_, inside := sample.Inside(binds[k], 0, behind)
		kid, e := m.term(t, inside)
		if e != api.OK {
			return nil, e
		}
		out = append(out, kid)
	}
	return out, api.OK
}

// goesOver goes over a whole term.
func goesOver(t api.Term, what func(r row, isFace bool, behind int) (row, api.Errno)) (api.Term, api.Errno) {
	return model{sample.Forms(), what}.term(t, 0)
}

// has tells whether a row has a dimension, which may be too great for any to have it.
func has(r row, i int) bool {
	for _, c := range r {
		if (uint64(c.Pos)|uint64(c.Neg))>>i&1 == 1 {
			return true
		}
	}
	return false
}

// renumbered tells a row, each dimension of which is another one.
func renumbered(r row, to func(int) int) row {
	var out row
	for _, c := range r {
		var d api.Clause
		for i := range api.MaxDims {
			if k := to(i); k >= 0 {
				d.Pos |= c.Pos >> i & 1 << k
				d.Neg |= c.Neg >> i & 1 << k
			}
		}
		out = append(out, d)
	}
	return out
}

// last tells the greatest dimension of a row; -1, if it has none.
func last(r row) int { return bits.Len32(formula.Dims(r)) - 1 }

// putModel tells what Put is to answer of arguments that may be.
func putModel(t api.Term, i int, r row) (api.Term, api.Errno) {
	return goesOver(t, func(f row, isFace bool, behind int) (row, api.Errno) {
		switch at := i + behind; {
		case !has(f, at):
			return f, api.OK
		case last(r)+behind >= api.MaxDims && last(r) >= 0:
			return nil, api.ErrDims
		case isFace:
			return face.Put(f, at, renumbered(r, func(k int) int { return k + behind }))
		default:
			return formula.Put(f, at, renumbered(r, func(k int) int { return k + behind }))
		}
	})
}

// takeModel tells what Take is to answer of arguments that may be.
func takeModel(t api.Term, i int, r row) (api.Term, api.Errno) {
	if last(r) == api.MaxDims-1 {
		return t, api.ErrDims
	}
	up := renumbered(r, func(k int) int {
		if k < i {
			return k
		}
		return k + 1
	})
	put, e := putModel(t, i, up)
	if e != api.OK {
		return t, e
	}
	return goesOver(put, func(f row, _ bool, behind int) (row, api.Errno) {
		return renumbered(f, func(k int) int {
			switch {
			case k < i+behind:
				return k
			case k == i+behind:
				return -1
			}
			return k - 1
		}), api.OK
	})
}

// underModel tells what Under is to answer of arguments that may be: clauses that can't be so go, literals that are so, too.
func underModel(t api.Term, c api.Clause) (api.Term, api.Errno) {
	if c == (api.Clause{}) {
		return t, api.OK
	}
	return goesOver(t, func(f row, _ bool, behind int) (row, api.Errno) {
		p, n := uint32(uint64(c.Pos)<<behind), uint32(uint64(c.Neg)<<behind)
		var out row
		for _, d := range f {
			if d.Pos&n == 0 && d.Neg&p == 0 {
				out = append(out, both(d.Pos&^p, d.Neg&^n))
			}
		}
		return sample.Least(out), api.OK
	})
}

// someRow tells a formula: a small one, a great one, one whose Not is too great, or a row that may be none.
func someRow(g *sample.Grower, dims int) row {
	switch g.Below(12) {
	case 0:
		return sevenPairs()
	case 1:
		return sample.Pairs(1 + g.Below(64))
	case 2:
		wrong := sample.WrongFormulas()
		return wrong[g.Below(len(wrong))]
	}
	return g.Row(dims, false)
}

// right tells whether a row is a formula, by the tests' own rule.
func right(r row) bool { return sample.MayBeFormed(loops(r...)) }

// someScoped tells a term in some dimensions, few of them not formed, and how many dimensions there are.
func someScoped(g *sample.Grower) (api.Term, int) {
	dims := []int{1, 2, 3, 4, 8, 20, 22, 23, 24}[g.Below(9)]
	x := g.Term(g.Below(4), dims, g.Below(80))
	if g.Below(12) == 0 {
		x = g.Spoilt(x)
	}
	return x, dims
}

// P13.1, P13.2 and P13.3, by another road: terms of all kinds, and dimensions, formulas and clauses of all sorts.
func TestByTheModel(t *testing.T) {
	seen := map[string]map[api.Errno]int{"Put": {}, "Take": {}, "Under": {}}
	models := map[string]func(api.Term, int, row) (api.Term, api.Errno){"Put": putModel, "Take": takeModel}
	for seed := range uint32(8000) {
		g := sample.Grow(seed)
		x, dims := someScoped(g)
		formed := sample.MayBeFormed(x)
		for range 4 {
			i, r := g.Below(min(dims+1, 4)), someRow(g, []int{2, dims, 24}[g.Below(3)])
			if g.Below(10) == 0 {
				i = sample.NoDimensions()[g.Below(8)]
			}
			for name, call := range calls() {
				want, wantE := api.Term{}, api.ErrArg
				switch {
				case !formed:
					wantE = api.ErrTerm
				case i >= 0 && i < 24 && right(r):
					want, wantE = models[name](x, i, r)
				}
				got, e := call(x, i, r)
				answer(t, name, got, e, want, wantE)
				seen[name][e]++
			}
			c := both(uint32(g.Below(1<<24)&g.Below(1<<24)), uint32(g.Below(1<<24)&g.Below(1<<24)))
			if g.Below(4) > 0 {
				c.Neg &^= c.Pos
			}
			want, wantE := api.Term{}, api.ErrArg
			switch {
			case !formed:
				wantE = api.ErrTerm
			case c.Pos&c.Neg == 0:
				want, wantE = underModel(x, c)
			}
			got, e := Under(x, c)
			answer(t, "Under", got, e, want, wantE)
			seen["Under"][e]++
		}
		if t.Failed() {
			t.Fatalf("the seed %d: %s", seed, short(x))
		}
	}
	for name, kinds := range map[string][]api.Errno{"Put": {api.OK, api.ErrArg, api.ErrTerm, api.ErrDims, api.ErrBig}, "Take": {api.OK, api.ErrArg, api.ErrTerm, api.ErrDims, api.ErrBig}, "Under": {api.OK, api.ErrArg, api.ErrTerm}} {
		for _, e := range kinds {
			if seen[name][e] < 200 {
				t.Errorf("%s: the answer %d was there %d times only", name, e, seen[name][e])
			}
		}
	}
}
