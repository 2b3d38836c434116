package hcomp

import (
	"hypercube/api"
	"hypercube/build"
	"hypercube/dims"
	"hypercube/formula"
	"hypercube/lift"
	"hypercube/plug"
)

// composition is what is composed in a type: a base, and a system of lines that begin with it.
type composition struct {
	in, a api.Term
	sys   []api.Branch
}

// term tells it as a term.
func (c composition) term() api.Term { return branched(c.sys, api.HComp, c.in, c.a) }

// each tells a system of what each branch becomes.
func (c composition) each(becomes func(api.Branch) api.Branch) []api.Branch {
	var out []api.Branch
	for _, b := range c.sys {
		out = append(out, becomes(b))
	}
	return out
}

// to tells the composition in another type, of what the base becomes, and then each line, where it was.
func (c composition) to(in api.Term, becomes func(api.Term) api.Term) composition {
	a := becomes(c.a)
	return composition{in, a, c.each(func(b api.Branch) api.Branch { return branch(b.Face, becomes(b.Kids[0])) })}
}

// function composes functions: what they tell of the same thing is composed.
func (c composition) function() api.Term {
	told := c.to(c.in.Kids[1], func(f api.Term) api.Term { return node(api.App, lifted(f, 1, 0), node(api.Var)) })
	return node(api.Lam, told.term())
}

// twoParts composes pairs: their second parts along what the first ones are on the way.
func (c composition) twoParts() api.Term {
	first := c.to(c.in.Kids[0], func(p api.Term) api.Term { return node(api.Fst, p) })
	fill := must(build.Fill(first.in, first.a, first.sys))
	line := must(plug.At(lifted(c.in.Kids[1], 0, 1), 0, fill))
	second := c.to(line, func(p api.Term) api.Term { return node(api.Snd, p) })
	return node(api.Pair, first.term(), must(build.Comp(second.in, second.a, second.sys)))
}

// path composes paths: their points, so that the ends stay what they are.
func (c composition) path() api.Term {
	l, r := c.in.Kids[1], c.in.Kids[2]
	// The path's own dimension is the innermost one ahead of the binder of a line, and the next one behind that.
	i := dimension(0)
	base := here(i, lifted(c.a, 0, 1), lifted(l, 0, 1), lifted(r, 0, 1))
	ends := endsInLines(l, r)
	sys := c.each(func(b api.Branch) api.Branch {
		where, p := must(formula.Lift(b.Face, 0, 1)), must(lift.Dims(b.Kids[0], 1, 1))
		from, to := ends()
		return branch(where, here(dimension(1), p, from, to))
	})
	from, to := ends()
	sys = append(sys, branch(must(formula.Not(i)), from), branch(i, to))
	return node(api.PLam, composition{c.in.Kids[0], base, sys}.term())
}

// gluing composes types: the base is glued along lines of types, each of which is an equivalence of its end with its beginning.
func (c composition) gluing() api.Term {
	equivs, id := equivsWith(c.a), build.Id()
	sys := c.each(func(b api.Branch) api.Branch {
		line := b.Kids[0]
		end := must(dims.Take(line, 0, formula.One()))
		return branch(b.Face, end, node(api.Transp, equivs(line), id))
	})
	return branched(sys, api.Glue, c.a)
}
