package term

import (
	"hypercube/api"
	"hypercube/face"
	"hypercube/formula"
)

// Right tells what is wrong with a term in so many variables and dimensions.
func Right(t api.Term, vars, dims int) api.Errno {
	if vars < 0 || dims < 0 || dims > api.MaxDims {
		return api.ErrArg
	}
	return outside{vars: vars, dims: dims}.wrong(t)
}

// Formed tells what is wrong with a term.
func Formed(t api.Term) api.Errno { return outside{open: true}.wrong(t) }

// outside is what there is around a term: so many variables and dimensions. Where it is open, there are as many variables as you like, and all dimensions that a formula can have, behind as many binders as you like.
type outside struct {
	vars, dims int
	open       bool
}

func (o outside) wrong(t api.Term) api.Errno {
	nodes, depth := measure(t, api.MaxDepth)
	switch {
	case depth > api.MaxDepth:
		return api.ErrDeep
	case nodes > api.MaxSize:
		return api.ErrSize
	case !o.allows(&t, binders{}):
		return api.ErrTerm
	}
	return api.OK
}

// allows tells whether a node may stand behind so many binders, with all that it has.
func (o outside) allows(t *api.Term, b binders) bool {
	if !o.open && b.dims > api.MaxDims-o.dims {
		return false
	}
	if len(t.Kids) != Kids(t.Kind) || !o.fields(t, b) || !o.system(t, b) {
		return false
	}
	for part, b := range b.parts(t) {
		if !o.allows(part, b) {
			return false
		}
	}
	return true
}

// system tells whether a node's branches have faces that may be, and as many Kids as its kind asks for.
func (o outside) system(t *api.Term, b binders) bool {
	parts := Parts(t.Kind)
	for _, branch := range t.Sys {
		if parts == 0 || len(branch.Kids) != parts || !face.Right(branch.Face) || !o.reaches(branch.Face, b) {
			return false
		}
	}
	return true
}

// fields tells whether a node's number, name and row are what its kind asks for.
func (o outside) fields(t *api.Term, b binders) bool {
	return o.number(t, b) && named(t) && o.row(t, b)
}

func (o outside) number(t *api.Term, b binders) bool {
	if t.Kind != api.Var {
		return t.N == 0
	}
	// The binders are taken off, since there may be so many variables that no more can be added; what is below 0 then is bound inside.
	return t.N >= 0 && (o.open || t.N-b.vars < o.vars)
}

func named(t *api.Term) bool {
	if t.Kind != api.Const {
		return t.Name == ""
	}
	for k := range len(t.Name) {
		if c := t.Name[k]; !letter(c) && (k == 0 || c < '0' || c > '9') {
			return false
		}
	}
	return t.Name != ""
}

func letter(c byte) bool {
	return c >= 'a' && c <= 'z' || c >= 'A' && c <= 'Z' || c == '_'
}

func (o outside) row(t *api.Term, b binders) bool {
	switch t.Kind {
	case api.PApp, api.Loop, api.Merid:
		return formula.Right(t.R) && o.reaches(t.R, b)
	case api.Transp:
		return face.Right(t.R) && o.reaches(t.R, b)
	}
	return len(t.R) == 0
}

// reaches tells whether there are all dimensions of a row.
func (o outside) reaches(r []api.Clause, b binders) bool {
	return o.open || formula.Dims(r)>>(o.dims+b.dims) == 0
}
