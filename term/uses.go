package term

import (
	"hypercube/api"
	"hypercube/formula"
)

// Uses tells whether it has a variable.
func Uses(t api.Term, n int) bool { return uses(&t, n, binders{}) }

func uses(t *api.Term, n int, b binders) bool {
	// The binders are taken off, since n may be too great for more to be added.
	if t.Kind == api.Var && t.N >= b.vars && t.N-b.vars == n {
		return true
	}
	for part, b := range b.parts(t) {
		if uses(part, n, b) {
			return true
		}
	}
	return false
}

// Dims tells its dimensions.
func Dims(t api.Term) uint32 { return dims(&t, binders{}) }

func dims(t *api.Term, b binders) uint32 {
	all := formula.Dims(t.R)
	for _, branch := range t.Sys {
		all |= formula.Dims(branch.Face)
	}
	all >>= b.dims
	for part, b := range b.parts(t) {
		all |= dims(part, b)
	}
	return all
}
