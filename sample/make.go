package sample

import "hypercube/api"

// Node tells a term of a kind, with its Kids.
func Node(kind int, kids ...api.Term) api.Term { return api.Term{Kind: kind, Kids: kids} }

// Var tells a variable.
func Var(n int) api.Term { return api.Term{Kind: api.Var, N: n} }

// Loop tells the loop at a dimension.
func Loop(i int) api.Term { return api.Term{Kind: api.Loop, R: []api.Clause{Pos(1 << i)}} }

// Lam tells a term behind a binder of a variable.
func Lam(t api.Term) api.Term { return Node(api.Lam, t) }

// PLam tells a term behind a binder of a dimension.
func PLam(t api.Term) api.Term { return Node(api.PLam, t) }

// Fst tells a term that has another, and binds nothing.
func Fst(t api.Term) api.Term { return Node(api.Fst, t) }

// With tells a term with a row.
func With(t api.Term, r []api.Clause) api.Term {
	t.R = r
	return t
}

// Grown tells a term with one branch more.
func Grown(t api.Term, face []api.Clause, kids ...api.Term) api.Term {
	t.Sys = append(t.Sys[:len(t.Sys):len(t.Sys)], api.Branch{Face: face, Kids: kids})
	return t
}

// Times tells a term that is put into another, n times.
func Times(n int, t api.Term, in func(api.Term) api.Term) api.Term {
	for range n {
		t = in(t)
	}
	return t
}

// Bushy tells a term of so many nodes that may be, few deep: a system of branches, one node each.
func Bushy(nodes int) api.Term {
	t := Node(api.MkGlue, Node(api.Univ))
	for range nodes - 2 {
		t.Sys = append(t.Sys, api.Branch{Kids: []api.Term{Node(api.Univ)}})
	}
	return t
}

// Balanced tells a term of so many nodes that may be, of Pairs as far as may be.
func Balanced(nodes int) api.Term {
	switch {
	case nodes == 1:
		return Node(api.Univ)
	case nodes == 2:
		return Fst(Node(api.Univ))
	}
	first := (nodes - 1) / 2
	return Node(api.Pair, Balanced(first), Balanced(nodes-1-first))
}

// Plain tells a copy of a term in which no list is nil.
func Plain(t api.Term) api.Term {
	t.R = append([]api.Clause{}, t.R...)
	t.Kids = plainKids(t.Kids)
	sys := []api.Branch{}
	for _, b := range t.Sys {
		sys = append(sys, api.Branch{Face: append([]api.Clause{}, b.Face...), Kids: plainKids(b.Kids)})
	}
	t.Sys = sys
	return t
}

func plainKids(l []api.Term) []api.Term {
	out := []api.Term{}
	for _, t := range l {
		out = append(out, Plain(t))
	}
	return out
}
