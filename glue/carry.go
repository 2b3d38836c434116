package glue

import (
	"hypercube/api"
	"hypercube/build"
	"hypercube/dims"
	"hypercube/face"
	"hypercube/formula"
)

// carried is the rule of Carry.
func carried(t api.Term) api.Term {
	phi, g, a := t.R, t.Kids[0], t.Kids[1]
	a0 := branched(unglues(lineAt(g, formula.Zero())), api.Unglue, a)
	stay := staying(g)
	a1 := must(build.Comp(g.Kids[0], a0, ahead(phi, a, a0, stay)))
	g1 := lineAt(g, formula.One())
	l := arrival{base: g1.Kids[0], a1: raise(a1)}
	l.known = grow(nil, unlessNever(phi), func(where []api.Clause) point { return point{where, raise(a)} })
	l.known = grow(l.known, stay, func(x api.Branch) point { return point{x.Face, raise(transp(phi, x.Kids[0], a))} })
	return l.glued(phi, grow(nil, g1.Sys, l.end))
}

// lineAt tells what a line is at a formula.
func lineAt(line api.Term, r []api.Clause) api.Term { return must(dims.Take(line, 0, r)) }

// unlessNever tells a face, unless it is never: then nothing has it.
func unlessNever(where []api.Clause) [][]api.Clause {
	if len(where) == 0 {
		return nil
	}
	return [][]api.Clause{where}
}

// staying tells the branches of a line of glued types that are there all along it, where they are.
func staying(g api.Term) []api.Branch {
	var stay []api.Branch
	for _, b := range g.Sys {
		if where := must(face.All(b.Face, 0)); len(where) > 0 {
			// Dimensions are taken out of terms: so it is taken out of one that has the face.
			rest := lineAt(transp(where, node(api.Univ), node(api.Univ)), formula.Zero())
			stay = append(stay, api.Branch{Face: rest.R, Kids: b.Kids})
		}
	}
	return stay
}

// ahead tells what is known of a1 all along the line: where nothing is carried it stays what it is at the beginning, and where a branch stays it is what its function makes of what is carried so far.
func ahead(phi []api.Clause, a, a0 api.Term, stay []api.Branch) []api.Branch {
	sys := grow(nil, unlessNever(phi), func(where []api.Clause) api.Branch { return branch(where, lifted(a0)) })
	run := runs(phi, a)
	return grow(sys, stay, func(x api.Branch) api.Branch {
		return branch(x.Face, node(api.App, function(x.Kids[1]), run(x.Kids[0])))
	})
}

// runs tells what is carried along several lines so far. The lines are all that these differ in: so the first is made as a whole, and in the others Univ stands for what is carried until they are made. (They are no greater than what was handed in, so none is refused for that.)
func runs(phi []api.Clause, a api.Term) func(line api.Term) api.Term {
	var first *api.Term
	return func(line api.Term) api.Term {
		if first == nil {
			run := must(build.Run(line, phi, a))
			first = &run
			return run
		}
		run := must(build.Run(line, phi, node(api.Univ)))
		return transp(run.R, run.Kids[0], first.Kids[1])
	}
}
