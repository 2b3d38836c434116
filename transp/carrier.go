package transp

import (
	"hypercube/api"
	"hypercube/build"
	"hypercube/formula"
	"hypercube/lift"
	"hypercube/plug"
)

// carrier carries something along a line, but where phi is. What it makes on the way, its maker keeps.
type carrier struct {
	maker
	phi     []api.Clause
	line, a api.Term
}

// along carries something along another line, but where phi is.
func (c *carrier) along(line, x api.Term) api.Term {
	return api.Term{Kind: api.Transp, R: c.phi, Kids: []api.Term{line, x}}
}

// function carries a function: what that is handed at the line's end comes back to its beginning, and what it tells of this there is carried along.
func (c *carrier) function() api.Term {
	from, to := c.line.Kids[0], c.line.Kids[1]
	back := c.part(build.Back(c.lifted(from, 1, 0), c.phi, api.Term{Kind: api.Var}))
	// Behind its own variable, room is made for that of the new function.
	room := c.part(lift.Vars(to, 1, 1))
	line := c.part(plug.At(room, 0, back))
	applied := node(api.App, c.lifted(c.a, 1, 0), c.start(back))
	return node(api.Lam, c.along(line, applied))
}

// twoParts carries a pair: its second part along what the first one is on the way.
func (c *carrier) twoParts() api.Term {
	first, second := node(api.Fst, c.a), node(api.Snd, c.a)
	from, to := c.line.Kids[0], c.line.Kids[1]
	run := c.part(build.Run(from, c.phi, first))
	line := c.part(plug.At(to, 0, run))
	return node(api.Pair, c.along(from, first), c.along(line, second))
}

// path carries a path: each point of it, so that the ends stay those of the line's paths.
func (c *carrier) path() api.Term {
	in, u, v := c.line.Kids[0], c.line.Kids[1], c.line.Kids[2]
	from, to := c.start(u), c.start(v)
	line := c.swapped(in)
	// The path's own dimension is the innermost one ahead of the binder of a line, and the next one behind that.
	point := func(by int) api.Term {
		p := node(api.PApp, c.lifted(c.a, 0, by), c.lifted(from, 0, by), c.lifted(to, 0, by))
		p.R = c.dimension(by - 1)
		return p
	}
	base := point(1)
	var sys []api.Branch
	if len(c.phi) > 0 {
		sys = append(sys, branch(c.row(formula.Lift(c.phi, 0, 1)), point(2)))
	}
	sys = append(sys, branch(c.row(formula.Not(c.dimension(0))), c.side(u)), branch(c.dimension(0), c.side(v)))
	return node(api.PLam, c.part(build.Comp(line, base, sys)))
}

// side tells a line of ends, with room for the path's dimension behind the line's own.
func (c *carrier) side(end api.Term) api.Term { return c.part(lift.Dims(end, 1, 1)) }

// node tells a term of a kind, with its Kids.
func node(kind int, kids ...api.Term) api.Term { return api.Term{Kind: kind, Kids: kids} }

// branch tells one of a single Kid.
func branch(face []api.Clause, kid api.Term) api.Branch {
	return api.Branch{Face: face, Kids: []api.Term{kid}}
}
