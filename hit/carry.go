package hit

import (
	"hypercube/api"
	"hypercube/build"
	"hypercube/formula"
	"hypercube/lift"
)

// carried is the rule of Carry.
func carried(t api.Term) (api.Term, bool, api.Errno) {
	if t.Kind != api.Transp || t.Kids[0].Kind != api.Susp {
		return api.Term{}, false, api.OK
	}
	line, x := t.Kids[0], t.Kids[1]
	switch x.Kind {
	case api.North, api.South:
		return x, true, api.OK
	case api.Merid:
		made := node(api.Merid, transp(t.R, line.Kids[0], x.Kids[0]))
		made.R = x.R
		return made, true, api.OK
	case api.HComp:
		made, e := composition(t.R, line, x)
		return made, true, e
	}
	return api.Term{}, false, api.OK
}

// composition composes what becomes of a composition's parts along a line.
func composition(phi []api.Clause, line, h api.Term) (api.Term, api.Errno) {
	sys, e := carriedEach(phi, line, h.Sys)
	if e != api.OK {
		return api.Term{}, e
	}
	// Composing the first part alone along the line tells its end, and what is carried there, but for where nothing is carried. It comes last, as it is refused as the whole would be: for how deep or how great the line is.
	made, e := build.Comp(line, h.Kids[1], nil)
	if e != api.OK {
		return api.Term{}, e
	}
	made.Kids[1].R, made.Sys = phi, sys
	return made, api.OK
}

// carriedEach tells branches in which what stands there is carried along a line. Without a branch the line does not go behind a binder, so nothing of it is refused.
func carriedEach(phi []api.Clause, line api.Term, sys []api.Branch) ([]api.Branch, api.Errno) {
	if len(sys) == 0 {
		return nil, api.OK
	}
	where, e := formula.Lift(phi, 0, 1)
	if e != api.OK {
		return nil, e
	}
	// It is lifted behind its own binder, so that its own dimension stays.
	bound, e := lift.Both(node(api.PLam, line), 0, 1)
	if e != api.OK {
		return nil, e
	}
	return each(sys, bound.Kids, func(further []api.Term, u api.Term) api.Term { return transp(where, further[0], u) }), api.OK
}

// transp carries along a line, but where a face is.
func transp(where []api.Clause, line, a api.Term) api.Term {
	t := node(api.Transp, line, a)
	t.R = where
	return t
}
