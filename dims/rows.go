package dims

import (
	"slices"

	"hypercube/api"
	"hypercube/face"
	"hypercube/formula"
	"hypercube/mask"
	"hypercube/term"
)

// rows is what is done to a node's rows, behind so many binders of dimensions: to a formula, and to a face. Both give up by a panic.
type rows struct {
	formula, face func(row []api.Clause, behind int) []api.Clause
}

// putting tells how a formula is put in the place of a dimension.
func putting(i int, r []api.Clause) rows {
	by := func(put func(row []api.Clause, i int, r []api.Clause) ([]api.Clause, api.Errno)) func([]api.Clause, int) []api.Clause {
		return func(row []api.Clause, behind int) []api.Clause {
			// Where there is no i, r need not be such that it can be lifted.
			if !mask.Has(formula.Dims(row), i+behind) {
				return slices.Clone(row)
			}
			return told(put(row, i+behind, told(formula.Lift(r, 0, behind))))
		}
	}
	return rows{formula: by(formula.Put), face: by(face.Put)}
}

// dropping tells how a dimension that no row has is taken out. What is left is in the order, and none of it is needless, as it was ahead.
func dropping(i int) rows {
	drop := func(row []api.Clause, behind int) []api.Clause {
		out := make([]api.Clause, len(row))
		for k, c := range row {
			out[k] = api.Clause{Pos: mask.Drop(c.Pos, i+behind), Neg: mask.Drop(c.Neg, i+behind)}
		}
		return out
	}
	return rows{formula: drop, face: drop}
}

// told tells what a call told, or gives up with what it refused.
func told(row []api.Clause, e api.Errno) []api.Clause {
	if e != api.OK {
		panic(e)
	}
	return row
}

// term tells a formed term with all of its rows done, node by node, and without the branches whose face is never then.
func (w rows) term(t api.Term) (out api.Term, e api.Errno) {
	// What is refused is given up by a panic, so that each part says what it becomes and no more; it is caught here.
	defer func() {
		if refusal := recover(); refusal != nil {
			e = refusal.(api.Errno)
		}
	}()
	var over func(t *api.Term, behind int) api.Term
	over = func(t *api.Term, behind int) api.Term {
		done := api.Term{Kind: t.Kind, N: t.N, Name: t.Name, R: w.own(t, behind)}
		for k := range t.Kids {
			_, dims := term.Binds(t.Kind, k)
			done.Kids = append(done.Kids, over(&t.Kids[k], behind+dims))
		}
		inside := behind
		if t.Kind == api.HComp {
			inside++
		}
		for _, branch := range t.Sys {
			where := w.face(branch.Face, behind)
			// The Kids of a branch that goes are not gone into: nothing of them is refused.
			if len(where) == 0 {
				continue
			}
			kept := api.Branch{Face: where}
			for k := range branch.Kids {
				kept.Kids = append(kept.Kids, over(&branch.Kids[k], inside))
			}
			done.Sys = append(done.Sys, kept)
		}
		return done
	}
	return over(&t, 0), api.OK
}

// own tells what becomes of the row that is a node's own: that of a Transp is a face, all others are formulas.
func (w rows) own(t *api.Term, behind int) []api.Clause {
	if t.Kind == api.Transp {
		return w.face(t.R, behind)
	}
	return w.formula(t.R, behind)
}
