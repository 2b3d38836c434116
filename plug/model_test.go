package plug

import (
	"math"
	"testing"

	"hypercube/api"
	"hypercube/lift"
	"hypercube/sample"
)

// model puts by the tests' own rule: by the kinds' forms as package sample tells them; n grows with each binder, by numbers that have room for it.
type model struct {
	forms map[int]sample.Form
	u     api.Term
	lifts bool // or else u is put as it is
}

func (m model) term(t api.Term, n uint64, vars, dims int) (api.Term, api.Errno) {
	if t.Kind == api.Var {
		return m.variable(t, n, vars, dims)
	}
	f := m.forms[t.Kind]
	var e api.Errno
	if t.Kids, e = m.kids(t.Kids, f.Kids, n, vars, dims); e != api.OK {
		return t, e
	}
	var sys []api.Branch
	for _, b := range t.Sys {
		if b.Kids, e = m.kids(b.Kids, f.Branch, n, vars, dims); e != api.OK {
			return t, e
		}
		sys = append(sys, b)
	}
	t.Sys = sys
	return t, api.OK
}

func (m model) kids(l []api.Term, binds string, n uint64, vars, dims int) ([]api.Term, api.Errno) {
	var out []api.Term
	for k, t := range l {
		v, d := sample.Inside(binds[k], vars, dims)
		kid, e := m.term(t, n+uint64(v-vars), v, d)
		if e != api.OK {
			return nil, e
		}
		out = append(out, kid)
	}
	return out, api.OK
}

func (m model) variable(t api.Term, n uint64, vars, dims int) (api.Term, api.Errno) {
	switch {
	case uint64(t.N) < n:
		return t, api.OK
	case uint64(t.N) > n:
		t.N--
		return t, api.OK
	case !m.lifts:
		return m.u, api.OK
	}
	return lift.Both(m.u, vars, dims)
}

// depth tells a term's, by the tests' own rule.
func depth(t api.Term) int {
	most := 0
	for _, kid := range t.Kids {
		most = max(most, depth(kid))
	}
	for _, b := range t.Sys {
		for _, kid := range b.Kids {
			most = max(most, depth(kid))
		}
	}
	return most + 1
}

// atModel tells what At is to answer of terms that are neither too great nor too deep.
func atModel(t api.Term, n int, u api.Term) (api.Term, api.Errno) {
	if !sample.MayBeFormed(t) || !sample.MayBeFormed(u) {
		return t, api.ErrTerm
	}
	if n < 0 {
		return t, api.ErrArg
	}
	m := model{forms: sample.Forms(), u: u}
	if plain, _ := m.term(t, uint64(n), 0, 0); sample.Nodes(plain) > 20000 {
		return t, api.ErrSize
	}
	m.lifts = true
	out, e := m.term(t, uint64(n), 0, 0)
	if e == api.OK && depth(out) > 200 {
		e = api.ErrDeep
	}
	return out, e
}

// countModel tells what Count is to answer: how many nodes more there are, if one of two nodes is put in.
func countModel(t api.Term, n int) (int, api.Errno) {
	if !sample.MayBeFormed(t) {
		return 0, api.ErrTerm
	}
	if n < 0 {
		return 0, api.ErrArg
	}
	out, _ := model{forms: sample.Forms(), u: fst(univ)}.term(t, uint64(n), 0, 0)
	return sample.Nodes(out) - sample.Nodes(t), api.OK
}

// someTerm tells one of any kind, mostly small, some great, some deep, some with far variables, few that are not formed.
func someTerm(g *sample.Grower, vars int) api.Term {
	nodes := g.Below(50)
	if g.Below(12) == 0 {
		nodes = 1500
	}
	x := g.Term(vars, []int{0, 1, 4, 20, 23, 24}[g.Below(6)], nodes)
	switch g.Below(16) {
	case 0, 1:
		x = g.Far(x)
	case 2:
		x = g.Spoilt(x)
	case 3, 4, 5:
		x = times(100+g.Below(50), x, fst)
	}
	return x
}

// P12.1 and P12.2, by another road: terms of all kinds, and numbers at all edges.
func TestByTheModel(t *testing.T) {
	numbers := []int{0, 0, 0, 0, 1, 1, 1, 2, 2, 3, 5, billion - 1, billion, billion + 1, math.MaxInt - 2*api.MaxSize, math.MaxInt, -1, math.MinInt}
	at, count := map[api.Errno]int{}, map[api.Errno]int{}
	used := 0
	for seed := range uint32(6000) {
		g := sample.Grow(seed)
		x, u := someTerm(g, 1+g.Below(3)), someTerm(g, g.Below(6))
		for range 4 {
			n := numbers[g.Below(len(numbers))]
			got, e := At(x, n, u)
			want, wantE := atModel(x, n, u)
			answer(t, "At", got, e, want, wantE)
			at[e]++
			times, wantE := countModel(x, n)
			counted(t, x, n, times, wantE)
			count[wantE]++
			if times > 0 && e == api.OK {
				used++
			}
		}
		if t.Failed() {
			t.Fatalf("the seed %d", seed)
		}
	}
	for _, e := range []api.Errno{api.OK, api.ErrArg, api.ErrTerm, api.ErrDims, api.ErrSize, api.ErrDeep} {
		if at[e] < 60 {
			t.Errorf("At: the answer %d was there %d times only", e, at[e])
		}
	}
	if count[api.OK] < 10000 || count[api.ErrArg] < 1000 || count[api.ErrTerm] < 1000 || used < 3000 {
		t.Errorf("Count: too few to tell: %v, %d", count, used)
	}
}
