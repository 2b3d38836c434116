package scope

import (
	"hypercube/api"
	"hypercube/clause"
	"hypercube/formula"
	"hypercube/mask"
	"hypercube/tree"
)

// dim tells the dimension that a Name or an Eq names.
func (r *resolver) dim(t api.Tree) int {
	i, found := r.dims.find(t.Name)
	if !found {
		giveUp(t, api.ErrScope)
	}
	return i
}

func (r *resolver) formula(t api.Tree) []api.Clause {
	var out []api.Clause
	var e api.Errno
	switch t.Kind {
	case tree.Name:
		out, e = formula.Dim(r.dim(t))
	case tree.Digit:
		out = digit(t)
	case tree.Not:
		out, e = formula.Not(r.formula(t.Kids[0]))
	case tree.And:
		out, e = formula.Meet(r.formula(t.Kids[0]), r.formula(t.Kids[1]))
	case tree.Or:
		out, e = formula.Join(r.formula(t.Kids[0]), r.formula(t.Kids[1]))
	}
	if e != api.OK {
		giveUp(t, e)
	}
	return out
}

func digit(t api.Tree) []api.Clause {
	if t.Name == "1" {
		return formula.One()
	}
	return formula.Zero()
}

// face tells the one clause of a Face.
func (r *resolver) face(t api.Tree) []api.Clause {
	var c api.Clause
	for _, eq := range t.Kids {
		if i := r.dim(eq); eq.Names[0] == "1" {
			c.Pos = mask.With(c.Pos, i)
		} else {
			c.Neg = mask.With(c.Neg, i)
		}
	}
	if clause.Clash(c) {
		giveUp(t, api.ErrForm)
	}
	return []api.Clause{c}
}
