package lift

import (
	"slices"

	"hypercube/api"
	"hypercube/formula"
	"hypercube/term"
)

// shift is from which one of the outside on variables and dimensions become more, and by how much.
type shift struct{ varsFrom, varsBy, dimsFrom, dimsBy int }

// binders is how many stand between a part and its outside.
type binders struct{ vars, dims int }

// term lifts one that is formed.
func (s shift) term(t api.Term) (out api.Term, e api.Errno) {
	// What is refused is given up by a panic, so that each part says what it becomes and no more; it is caught here.
	defer func() {
		if refusal := recover(); refusal != nil {
			e = refusal.(api.Errno)
		}
	}()
	var lift func(t *api.Term, b binders) api.Term
	lift = func(t *api.Term, b binders) api.Term {
		lifted := api.Term{Kind: t.Kind, N: s.number(t, b), Name: t.Name, R: s.row(t.R, b)}
		lifted.Kids = become(t.Kids, func(k int, kid *api.Term) api.Term {
			vars, dims := term.Binds(t.Kind, k)
			return lift(kid, binders{b.vars + vars, b.dims + dims})
		})
		inside := b
		if t.Kind == api.HComp {
			inside.dims++
		}
		lifted.Sys = become(t.Sys, func(_ int, branch *api.Branch) api.Branch {
			face := s.row(branch.Face, b)
			return api.Branch{Face: face, Kids: become(branch.Kids, func(_ int, kid *api.Term) api.Term { return lift(kid, inside) })}
		})
		return lifted
	}
	return lift(&t, binders{}), api.OK
}

// number tells what a node's number becomes: a variable's, if it is of the outside.
func (s shift) number(t *api.Term, b binders) int {
	// The binders are taken off, since from may be too great for them to be added; what is below 0 then is bound inside.
	if t.Kind != api.Var || t.N-b.vars < s.varsFrom {
		return t.N
	}
	if t.N > lastVar-s.varsBy {
		panic(api.ErrTerm)
	}
	return t.N + s.varsBy
}

// row tells what a formula or a face becomes.
func (s shift) row(r []api.Clause, b binders) []api.Clause {
	// Lifts of variables alone are many, and need not ask each row whether it may be.
	if s.dimsBy == 0 {
		return slices.Clone(r)
	}
	// No dimension is MaxDims or more, so from is not taken to be greater: then binders can be added.
	lifted, e := formula.Lift(r, min(s.dimsFrom, api.MaxDims)+b.dims, s.dimsBy)
	if e != api.OK {
		panic(e)
	}
	return lifted
}

// become tells a list of its own memory, of what each element becomes, in order.
func become[T any](l []T, what func(k int, x *T) T) []T {
	if len(l) == 0 {
		return nil
	}
	out := make([]T, len(l))
	for k := range l {
		out[k] = what(k, &l[k])
	}
	return out
}
