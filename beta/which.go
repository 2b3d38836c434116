package beta

import (
	"slices"

	"hypercube/api"
	"hypercube/formula"
	"hypercube/system"
)

// The steps that there are: rows of the chapter's table, as one where they differ by the node's kind alone.
const (
	none     = iota
	applied  // a function, to what it is applied to
	first    // a pair's first part
	second   // its second part
	atZero   // a path at 0
	atOne    // a path at 1
	within   // a path between its ends
	point    // what an eliminator makes of the first point
	opposite // of the second point
	along    // of a path
	bare     // a term, without its type
	still    // what is carried nowhere
	covered  // what stands in a total branch
	unglued  // what was glued
)

// which tells the step of a formed node. Where a kind has a step of its own behind those that it shares with others, that one is noted, and it falls through to the others.
func which(t api.Term) int {
	own := none
	switch t.Kind {
	case api.App:
		return when(t.Kids[0].Kind == api.Lam, applied)
	case api.Fst:
		return when(t.Kids[0].Kind == api.Pair, first)
	case api.Snd:
		return when(t.Kids[0].Kind == api.Pair, second)
	case api.PApp:
		own = when(t.Kids[0].Kind == api.PLam, within)
		fallthrough
	case api.Loop, api.Merid:
		return atEnd(t.R, own)
	case api.CircleEl, api.SuspEl:
		return eliminated(t.Kind, t.Kids[len(t.Kids)-1].Kind)
	case api.The:
		return bare
	case api.Transp:
		// A branch at a face that is always is total.
		return when(system.Total([]api.Branch{{Face: t.R}}) >= 0, still)
	case api.Unglue:
		own = when(t.Kids[0].Kind == api.MkGlue, unglued)
		fallthrough
	case api.HComp, api.Glue, api.MkGlue:
		if system.Total(t.Sys) >= 0 {
			return covered
		}
	}
	return own
}

// when tells a step, if it is there.
func when(there bool, step int) int {
	if there {
		return step
	}
	return none
}

// atEnd tells the step at a formula that is 0 or 1, and another one between.
func atEnd(r []api.Clause, between int) int {
	switch {
	case slices.Equal(r, formula.Zero()):
		return atZero
	case slices.Equal(r, formula.One()):
		return atOne
	}
	return between
}

// eliminated tells the step of an eliminator of a kind of constructors.
func eliminated(kind, of int) int {
	circle := kind == api.CircleEl
	switch {
	case circle && of == api.Base, !circle && of == api.North:
		return point
	case !circle && of == api.South:
		return opposite
	case circle && of == api.Loop, !circle && of == api.Merid:
		return along
	}
	return none
}
