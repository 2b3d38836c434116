package hcomp

import (
	"hypercube/api"
	"hypercube/build"
	"hypercube/formula"
	"hypercube/lift"
	"hypercube/term"
)

// endsInLines hands out a path's ends as they are in lines of its points, under two dimensions more. They are lifted but once, where they are asked for first. When an answer has no room for any more, small terms stand in for them: all that were handed out would have to be counted, for the same refusal.
func endsInLines(l, r api.Term) func() (from, to api.Term) {
	var from, to api.Term
	asked, each := 0, term.Size(l)+term.Size(r)
	return func() (api.Term, api.Term) {
		switch {
		case asked == 0:
			from, to = lifted(l, 0, 2), lifted(r, 0, 2)
		case asked*each > api.MaxSize:
			from, to = node(api.Univ), node(api.Univ)
		}
		asked++
		return from, to
	}
}

// equivsWith hands out lines: of the types of equivalences of lines of types with one that stays. When an answer has no room for any more, a small type stands in for that one: all that are great would have to be made, for the same refusal. But a line that is greater than all ahead of it has the type itself, since the two may be too great together. (Of other lines nothing is refused that hangs on that type, since nothing was ahead.)
func equivsWith(a api.Term) func(line api.Term) api.Term {
	var stays api.Term
	made, greatest := 0, 0
	return func(line api.Term) api.Term {
		size := term.Size(line)
		if greatest == 0 {
			stays = lifted(a, 0, 1)
		}
		if made > api.MaxSize && size <= greatest {
			return must(build.Equiv(line, node(api.Univ)))
		}
		equiv := must(build.Equiv(line, stays))
		made += term.Size(equiv)
		greatest = max(greatest, size)
		return equiv
	}
}

// lifted tells a term under so many binders more.
func lifted(t api.Term, vars, dims int) api.Term { return must(lift.Both(t, vars, dims)) }

// dimension tells the formula of a dimension.
func dimension(i int) []api.Clause { return must(formula.Dim(i)) }

// here tells where a path with two ends is at a formula.
func here(r []api.Clause, path, from, to api.Term) api.Term {
	t := node(api.PApp, path, from, to)
	t.R = r
	return t
}

// node tells a term of a kind, with its Kids.
func node(kind int, kids ...api.Term) api.Term { return api.Term{Kind: kind, Kids: kids} }

// branched tells one that has a system.
func branched(sys []api.Branch, kind int, kids ...api.Term) api.Term {
	return api.Term{Kind: kind, Kids: kids, Sys: sys}
}

// branch tells one of such Kids.
func branch(face []api.Clause, kids ...api.Term) api.Branch {
	return api.Branch{Face: face, Kids: kids}
}
