package term

import (
	"iter"

	"hypercube/api"
)

// Kids tells how many a kind has.
func Kids(kind int) int {
	switch kind {
	case api.Var, api.Const, api.Univ, api.Circle, api.Base, api.Loop, api.North, api.South:
		return 0
	case api.Lam, api.Fst, api.Snd, api.PLam, api.Glue, api.MkGlue, api.Unglue, api.Susp, api.Merid:
		return 1
	case api.Pi, api.App, api.Sigma, api.Pair, api.Transp, api.HComp, api.The:
		return 2
	case api.Path, api.PApp:
		return 3
	case api.CircleEl:
		return 4
	case api.SuspEl:
		return 5
	}
	return -1
}

// Binds tells what a kid binds.
func Binds(kind, kid int) (vars, dims int) {
	binder := 0
	switch kind {
	case api.Pi, api.Sigma:
		// The variable's type stands ahead of what it is bound in; but for that they bind as the others do.
		binder = 1
		fallthrough
	case api.Lam, api.CircleEl, api.SuspEl:
		if kid == binder {
			vars = 1
		}
	case api.Path, api.PLam, api.Transp:
		if kid == binder {
			dims = 1
		}
	}
	return vars, dims
}

// Parts tells how many kids a branch has.
func Parts(kind int) int {
	switch kind {
	case api.Glue:
		return 2
	case api.HComp, api.MkGlue, api.Unglue:
		return 1
	}
	return 0
}

// binders is how many stand between a part and its outside.
type binders struct{ vars, dims int }

// parts hands out a node's Kids and its branches', each with how many binders stand ahead of it, if so many stand ahead of the node.
func (b binders) parts(t *api.Term) iter.Seq2[*api.Term, binders] {
	return func(yield func(*api.Term, binders) bool) {
		for k := range t.Kids {
			vars, dims := Binds(t.Kind, k)
			if !yield(&t.Kids[k], binders{b.vars + vars, b.dims + dims}) {
				return
			}
		}
		if t.Kind == api.HComp {
			b.dims++
		}
		for _, branch := range t.Sys {
			for k := range branch.Kids {
				if !yield(&branch.Kids[k], b) {
					return
				}
			}
		}
	}
}
