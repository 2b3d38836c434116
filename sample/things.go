package sample

import "hypercube/api"

// Thing is a term of the outside: it tells itself behind so many binders more.
type Thing func(vars, dims int) api.Term

// Way is a line: it tells itself, with a formula in its dimension's place, behind so many binders more than its own.
type Way func(r []api.Clause, vars, dims int) api.Term

// Some tells things that are none the same, of variables and dimensions, with binders and branches.
func Some(n int) Thing {
	return func(vars, dims int) api.Term {
		here := pair(Var(n+vars), Loop(n%4+dims))
		inner := pair(pair(Var(0), Loop(0)), pair(Var(n+1+vars), Loop(n%4+1+dims)))
		return Grown(Node(api.MkGlue, here), []api.Clause{Neg(1 << (n%3 + dims)), Pos(2 << (n%3 + dims))}, Lam(PLam(inner)))
	}
}

// SomeWay tells lines likewise.
func SomeWay(n int) Way {
	return func(r []api.Clause, vars, dims int) api.Term {
		return pair(loops(r), pair(Some(n)(vars, dims+1), PLam(loops(Shift(r, 0, 1)))))
	}
}

// Few tells things likewise that have few nodes.
func Few(n int) Thing {
	return func(vars, dims int) api.Term { return pair(Var(n+vars), Loop(n%4+dims)) }
}

// FewWay tells such lines.
func FewWay(n int) Way {
	return func(r []api.Clause, vars, dims int) api.Term { return pair(loops(r), Few(n)(vars, dims+1)) }
}

// Shift tells a row with all dimensions from one on so many more.
func Shift(r []api.Clause, from, by int) []api.Clause {
	low := uint32(1)<<from - 1
	up := func(s uint32) uint32 { return s&low | s&^low<<by }
	var out []api.Clause
	for _, c := range r {
		out = append(out, Both(up(c.Pos), up(c.Neg)))
	}
	return out
}

func pair(a, b api.Term) api.Term { return Node(api.Pair, a, b) }

func loops(r []api.Clause) api.Term { return With(Node(api.Loop), r) }
