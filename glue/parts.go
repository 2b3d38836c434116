package glue

import (
	"hypercube/api"
	"hypercube/formula"
	"hypercube/lift"
)

// grow tells a system that is longer by a branch for each of some things, in their order: what its branch is, a closure tells of each. (What becomes a branch only later on grows likewise.)
func grow[T, B any](sys []B, things []T, branch func(T) B) []B {
	for _, x := range things {
		sys = append(sys, branch(x))
	}
	return sys
}

// raised tells what a term is under so many dimensions more. Each of these is made when it is asked for first: what stands in many places is lifted but once, and is refused the first time or never.
type raised func(by int) api.Term

// raise tells that of a term.
func raise(t api.Term) raised {
	under := []api.Term{t}
	return func(by int) api.Term {
		for len(under) <= by {
			under = append(under, lifted(under[len(under)-1]))
		}
		return under[by]
	}
}

// lifted tells a term under one dimension more.
func lifted(t api.Term) api.Term { return must(lift.Both(t, 0, 1)) }

// unglues tells the system by which a glued type unglues.
func unglues(g api.Term) []api.Branch {
	return grow(nil, g.Sys, func(b api.Branch) api.Branch { return branch(b.Face, b.Kids[1]) })
}

// function tells that of an equivalence.
func function(e api.Term) api.Term { return node(api.Fst, e) }

// node tells a term of a kind, with its Kids.
func node(kind int, kids ...api.Term) api.Term { return api.Term{Kind: kind, Kids: kids} }

// branched tells one that has a system.
func branched(sys []api.Branch, kind int, kids ...api.Term) api.Term {
	return api.Term{Kind: kind, Kids: kids, Sys: sys}
}

// branch tells one of a single Kid.
func branch(face []api.Clause, kid api.Term) api.Branch {
	return api.Branch{Face: face, Kids: []api.Term{kid}}
}

// transp carries along a line, but where a face is.
func transp(where []api.Clause, line, a api.Term) api.Term {
	t := node(api.Transp, line, a)
	t.R = where
	return t
}

// here tells where a path with two ends is at the innermost dimension.
func here(path, from, to api.Term) api.Term {
	t := node(api.PApp, path, from, to)
	t.R = must(formula.Dim(0))
	return t
}
