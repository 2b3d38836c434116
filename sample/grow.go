package sample

import (
	"math"
	"slices"

	"hypercube/api"
)

// Grower makes terms that may be; which, follows from its seed.
type Grower struct {
	forms map[int]Form
	seed  uint32
}

// Grow tells one that makes others with each seed.
func Grow(seed uint32) *Grower { return &Grower{Forms(), seed*2654435761 + 97} }

// Below tells a number below n.
func (g *Grower) Below(n int) int {
	g.seed = g.seed*1664525 + 1013904223
	return int(g.seed>>8) % n
}

// Term tells one that may be in so many variables and dimensions, of about so many nodes.
func (g *Grower) Term(vars, dims, nodes int) api.Term {
	return g.ofKind(g.kind(vars, dims, nodes), vars, dims, nodes)
}

// ofKind tells such a one, the own node of which is of a kind.
func (g *Grower) ofKind(kind, vars, dims, nodes int) api.Term {
	t := api.Term{Kind: kind}
	switch t.Kind {
	case api.Var:
		t.N = g.Below(vars)
	case api.Const:
		t.Name = []string{"a", "Z", "_", "x0", "fst", "a_B9"}[g.Below(6)]
	}
	f := g.forms[t.Kind]
	if f.Formula || f.Face {
		t.R = g.Row(dims, f.Face)
	}
	branches := 0
	if f.Branch != "" && g.binds(f.Branch, dims) {
		branches = g.Below(4)
	}
	each := (nodes - 1) / max(1, len(f.Kids)+branches*len(f.Branch))
	t.Kids = g.kids(f.Kids, vars, dims, each)
	for range branches {
		t.Sys = append(t.Sys, api.Branch{Face: g.Row(dims, true), Kids: g.kids(f.Branch, vars, dims, each)})
	}
	return t
}

// kind tells one that can stand there: without Kids, if no node is left for them.
func (g *Grower) kind(vars, dims, nodes int) int {
	for {
		kind := api.Var + g.Below(api.The)
		f := g.forms[kind]
		leaf := f.Kids == ""
		if leaf == (nodes <= 1) && (kind != api.Var || vars > 0) && g.binds(f.Kids, dims) {
			return kind
		}
	}
}

// binds tells whether there is room for the dimensions that are bound.
func (g *Grower) binds(kids string, dims int) bool {
	return dims < api.MaxDims || !slices.Contains([]byte(kids), 'i')
}

func (g *Grower) kids(binds string, vars, dims, nodes int) []api.Term {
	var out []api.Term
	for k := range len(binds) {
		v, d := Inside(binds[k], vars, dims)
		out = append(out, g.Term(v, d, nodes))
	}
	return out
}

// Row tells a formula, or a face, of at most three clauses on so many dimensions.
func (g *Grower) Row(dims int, face bool) []api.Clause {
	var l []api.Clause
	for range g.Below(4) {
		c := Both(g.set(dims), g.set(dims))
		if face {
			c.Neg &^= c.Pos
		}
		l = append(l, c)
	}
	return Least(l)
}

// set tells few of so many dimensions.
func (g *Grower) set(dims int) uint32 {
	var s uint32
	for range g.Below(3) {
		if dims > 0 {
			s |= 1 << g.Below(dims)
		}
	}
	return s
}

// Scoped is a term that may be in so many variables and dimensions.
type Scoped struct {
	T          api.Term
	Vars, Dims int
}

// GrownTerms tells such, of all kinds, one for each seed.
func GrownTerms(seeds uint32) []Scoped {
	var out []Scoped
	for seed := range seeds {
		g := Grow(seed)
		vars, dims := g.Below(6), g.Below(14)
		out = append(out, Scoped{g.Term(vars, dims, g.Below(50)), vars, dims})
	}
	return out
}

// Far tells a term, some variables of which are near the last one that a lift may tell, or near the end of all numbers (as far as MayBeFormed tells).
func (g *Grower) Far(t api.Term) api.Term {
	const last = 1000000000
	numbers := []int{last - 1000001, last - 1000000, last - 999999, last - 2, last - 1, last, last + 1, math.MaxInt - 2*api.MaxSize}
	t = Plain(t)
	most := 1 + g.Below(len(numbers))
	EachNode(&t, func(n *api.Term) {
		if n.Kind == api.Var && g.Below(3) == 0 {
			n.N = numbers[g.Below(most)]
		}
	})
	return t
}

// Spoilt tells a term, one node of which may not be any more, mostly.
func (g *Grower) Spoilt(t api.Term) api.Term {
	univ := Node(api.Univ)
	t = Plain(t)
	at := g.Below(Nodes(t))
	EachNode(&t, func(n *api.Term) {
		if at == 0 {
			*n = []api.Term{{}, Var(-1), {Kind: api.Const}, Loop(api.MaxDims), Lam(Lam(univ)), Node(api.Lam), Grown(univ, nil, univ)}[g.Below(7)]
		}
		at--
	})
	return t
}
