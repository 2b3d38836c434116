package transp

import (
	"hypercube/api"
	"hypercube/dims"
	"hypercube/formula"
	"hypercube/lift"
	"hypercube/term"
)

// maker makes the parts of an answer, one behind the other, and keeps the first error: so what is made is written as it stands, and what was refused is told at the end.
type maker struct{ first api.Errno }

// keep notes what a part is refused with, unless one ahead of it was.
func (m *maker) keep(e api.Errno) {
	if m.first == api.OK {
		m.first = e
	}
}

// part tells a part that is a term.
func (m *maker) part(t api.Term, e api.Errno) api.Term {
	m.keep(e)
	return t
}

// row tells a part that is a formula, or a face.
func (m *maker) row(r []api.Clause, e api.Errno) []api.Clause {
	m.keep(e)
	return r
}

// lifted tells a term under so many binders more.
func (m *maker) lifted(t api.Term, vars, dims int) api.Term { return m.part(lift.Both(t, vars, dims)) }

// start tells what a line begins with.
func (m *maker) start(line api.Term) api.Term { return m.part(dims.Take(line, 0, formula.Zero())) }

// dimension tells the formula of a dimension.
func (m *maker) dimension(i int) []api.Clause { return m.row(formula.Dim(i)) }

// swapped tells a term with its dimensions 0 and 1 exchanged: 0 is put behind the other one, where room was made for it.
func (m *maker) swapped(t api.Term) api.Term {
	apart := m.part(lift.Dims(t, 2, 1))
	return m.part(dims.Take(apart, 0, m.dimension(1)))
}

// done tells what was made, unless a part of it was refused, or the whole is. It is copied, since parts may stand in it as they were handed in, and in several places.
func (m *maker) done(t api.Term) (api.Term, api.Errno) {
	if m.first == api.OK {
		m.first = term.Formed(t)
	}
	if m.first != api.OK {
		return api.Term{}, m.first
	}
	return term.Copy(t), api.OK
}
