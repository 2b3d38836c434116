package sample

import "hypercube/api"

// InEachPlace tells a term of each kind, with so many branches where it has a system; what stands in a place is told by the place's letter.
func InEachPlace(branches int, part func(letter byte) api.Term, formula, face []api.Clause) []api.Term {
	var out []api.Term
	forms := Forms()
	for kind := api.Var; kind <= api.The; kind++ {
		f := forms[kind]
		x := api.Term{Kind: kind}
		if kind == api.Const {
			x.Name = "c"
		}
		for k := range len(f.Kids) {
			x.Kids = append(x.Kids, part(f.Kids[k]))
		}
		if f.Formula {
			x.R = formula
		}
		if f.Face {
			x.R = face
		}
		for range branches {
			var kids []api.Term
			for k := range len(f.Branch) {
				kids = append(kids, part(f.Branch[k]))
			}
			if f.Branch != "" {
				x = Grown(x, face, kids...)
			}
		}
		out = append(out, x)
	}
	return out
}

// Parts tells what stands in a place by its letter: one thing where that binds, another one elsewhere.
func Parts(binder byte, plain, bound api.Term) func(byte) api.Term {
	return func(letter byte) api.Term {
		if letter == binder {
			return bound
		}
		return plain
	}
}

// Places tells a term of a kind, with two branches if it has a system; in its places, in order, stands what is told by their numbers: a row (its formula or face, faces of branches), or a term.
func Places(kind int, rowAt func(int) []api.Clause, termAt func(int) api.Term) (x api.Term, rows []bool) {
	f := Forms()[kind]
	x = api.Term{Kind: kind}
	row := func() []api.Clause {
		rows = append(rows, true)
		return rowAt(len(rows) - 1)
	}
	kids := func(n int) []api.Term {
		var out []api.Term
		for range n {
			rows = append(rows, false)
			out = append(out, termAt(len(rows)-1))
		}
		return out
	}
	if f.Formula || f.Face {
		x.R = row()
	}
	x.Kids = kids(len(f.Kids))
	for range 2 {
		if f.Branch != "" {
			face := row()
			x = Grown(x, face, kids(len(f.Branch))...)
		}
	}
	return x, rows
}

// EachNode hands out all nodes of a term, to be changed.
func EachNode(t *api.Term, do func(*api.Term)) {
	do(t)
	for k := range t.Kids {
		EachNode(&t.Kids[k], do)
	}
	for _, b := range t.Sys {
		for k := range b.Kids {
			EachNode(&b.Kids[k], do)
		}
	}
}

// Nodes tells how many a term has.
func Nodes(t api.Term) int {
	n := 0
	EachNode(&t, func(*api.Term) { n++ })
	return n
}
