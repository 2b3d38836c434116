package glue

import (
	"hypercube/api"
	"hypercube/build"
)

// merged is the rule of Merge.
func merged(t api.Term) api.Term {
	g, b := t.Kids[0], t.Kids[1]
	// The system by which g unglues is lifted as a whole, whatever it unglues.
	unglue := raise(branched(unglues(g), api.Unglue, node(api.Univ)))
	sys := grow(nil, t.Sys, func(s api.Branch) api.Branch {
		return branch(s.Face, branched(unglue(1).Sys, api.Unglue, s.Kids[0]))
	})
	fill := fillers(b, t.Sys)
	sys = grow(sys, g.Sys, func(x api.Branch) api.Branch {
		return branch(x.Face, node(api.App, function(lifted(x.Kids[1])), fill(x.Kids[0])))
	})
	h := branched(sys, api.HComp, g.Kids[0], branched(unglue(0).Sys, api.Unglue, b))
	glued := grow(nil, g.Sys, func(x api.Branch) api.Branch {
		return branch(x.Face, branched(t.Sys, api.HComp, x.Kids[0], b))
	})
	return branched(glued, api.MkGlue, h)
}

// fillers tells what fills one composition in several types. The types are all that the fillers differ in: so the first is made as a whole, and of the others the type alone.
func fillers(b api.Term, sys []api.Branch) func(in api.Term) api.Term {
	var first *api.Term
	return func(in api.Term) api.Term {
		if first == nil {
			fill := must(build.Fill(in, b, sys))
			first = &fill
			return fill
		}
		return whole(branched(first.Sys, api.HComp, lifted(in), first.Kids[1]))
	}
}
