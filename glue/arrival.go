package glue

import (
	"hypercube/api"
	"hypercube/build"
	"hypercube/formula"
)

// arrival is what the branches at the end of a line of glued types have in common: the type that is glued, what was carried there, and which points of their fibers are known.
type arrival struct {
	base  api.Term
	a1    raised
	known []point
	first raised // the first branch's fiber
}

// point is what a point of the fibers is made of, where a face is.
type point struct {
	where []api.Clause
	x     raised
}

// end is a branch at the line's end: its equivalence, and the fiber of that over what was carried. There it has a point, w, that agrees with those that are known.
//
// In a w stands many times what all branches have in common. So no w is lifted: it is made again, of parts that are, and each of them is lifted but once. That is refused as the whole would be: a variable may be too great in the branch's type alone, which comes first (all else was lifted by a variable, for the fiber), and of dimensions all refusals are the same.
type end struct {
	where    []api.Clause
	e, fiber raised
}

// end tells that of a branch. All is asked for that its w is made of: what is refused of it is refused here, ahead of the answer.
func (l *arrival) end(b api.Branch) end {
	x := end{where: b.Face, e: raise(b.Kids[1])}
	if l.first == nil {
		l.first = raise(must(build.Fiber(b.Kids[0], l.base, function(b.Kids[1]), l.a1(0))))
		x.fiber = l.first
	} else {
		univ := node(api.Univ)
		x.fiber = raise(must(build.Fiber(b.Kids[0], univ, function(b.Kids[1]), univ)))
	}
	// Its center is less deep, and has fewer nodes: so it is formed, if the fiber is.
	whole(l.fiber(x, 0))
	for _, p := range l.known {
		l.center(x, 1)
		p.x(1)
		l.a1(2)
	}
	return x
}

// fiber tells that of a branch, under so many dimensions more. Its type and its function are its own, all else is that of the first one.
func (l *arrival) fiber(x end, by int) api.Term {
	own, path := x.fiber(by), l.first(by).Kids[1]
	return node(api.Sigma, own.Kids[0], node(api.Path, path.Kids[0], path.Kids[1], own.Kids[1].Kids[2]))
}

// center tells c, under so many dimensions more: that a branch's fiber has one point alone.
func (l *arrival) center(x end, by int) api.Term {
	return node(api.App, node(api.Snd, x.e(by)), l.a1(by))
}

// found tells a point that is known, behind a binder of a dimension, and under so many more.
func (l *arrival) found(p point, by int) api.Term {
	return node(api.Pair, p.x(by+1), node(api.PLam, l.a1(by+2)))
}

// w tells the point of a branch's fiber, under so many dimensions more.
func (l *arrival) w(x end, by int) api.Term {
	fiber, center := l.fiber(x, by), node(api.Fst, l.center(x, by))
	sys := grow(nil, l.known, func(p point) api.Branch {
		where, c, found := must(formula.Lift(p.where, 0, by)), l.center(x, by+1), l.found(p, by)
		return branch(where, here(node(api.App, node(api.Snd, c), found), node(api.Fst, c), found))
	})
	return branched(sys, api.HComp, fiber, center)
}

// glued tells the answer: what was carried, made to agree with the branches' points, and glued with these.
func (l *arrival) glued(phi []api.Clause, ends []end) api.Term {
	sys := grow(nil, unlessNever(phi), func(where []api.Clause) api.Branch { return branch(where, l.a1(1)) })
	sys = grow(sys, ends, func(x end) api.Branch {
		whole(l.w(x, 0))
		w := l.w(x, 1)
		return branch(x.where, here(node(api.Snd, w), l.a1(1), node(api.App, function(x.e(1)), node(api.Fst, w))))
	})
	points := grow(nil, ends, func(x end) api.Branch { return branch(x.where, node(api.Fst, l.w(x, 0))) })
	return branched(points, api.MkGlue, branched(sys, api.HComp, l.base, l.a1(0)))
}
