package hit

import (
	"slices"

	"hypercube/api"
	"hypercube/build"
	"hypercube/lift"
	"hypercube/plug"
)

// eliminated is the rule of Elim.
func eliminated(t api.Term) (api.Term, bool, api.Errno) {
	if t.Kind != api.CircleEl && t.Kind != api.SuspEl {
		return api.Term{}, false, api.OK
	}
	last := len(t.Kids) - 1
	if t.Kids[last].Kind != api.HComp {
		return api.Term{}, false, api.OK
	}
	// The eliminators differ by their kind alone, and by what stands ahead of what they eliminate: so one way through a composition, which is handed this, is that of both.
	made, e := composed(t.Kids[:last], t.Kids[last], func(ahead []api.Term, x api.Term) api.Term {
		return node(t.Kind, append(slices.Clone(ahead), x)...)
	})
	return made, true, e
}

// composed composes what an eliminator makes of a composition's parts, along the line of what is made of its filler. What stands ahead begins with the type that is made, behind a binder.
func composed(ahead []api.Term, h api.Term, eliminate maker) (api.Term, api.Errno) {
	fill, e := build.Fill(h.Kids[0], h.Kids[1], h.Sys)
	if e != api.OK {
		return api.Term{}, e
	}
	up, e := raised(ahead[:1])
	if e != api.OK {
		return api.Term{}, e
	}
	line, e := plug.At(up[0], 0, fill)
	if e != api.OK {
		return api.Term{}, e
	}
	// Without a branch nothing else goes behind a binder, so nothing of it is refused.
	if len(h.Sys) > 0 {
		if up, e = raised(ahead); e != api.OK {
			return api.Term{}, e
		}
	}
	return build.Comp(line, eliminate(ahead, h.Kids[1]), each(h.Sys, up, eliminate))
}

// raised tells terms under one dimension more. A variable that is bound ahead of one stays, as all variables do.
func raised(l []api.Term) ([]api.Term, api.Errno) {
	var out []api.Term
	for _, t := range l {
		up, e := lift.Both(t, 0, 1)
		if e != api.OK {
			return nil, e
		}
		out = append(out, up)
	}
	return out, api.OK
}
