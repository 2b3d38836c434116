package build

import (
	"hypercube/api"
	"hypercube/dims"
	"hypercube/face"
	"hypercube/formula"
	"hypercube/lift"
	"hypercube/term"
)

// maker makes the parts of an answer, one behind the other, and keeps the first error: so what is made is written as it stands, and what was refused is told at the end.
type maker struct{ first api.Errno }

// keep notes what a part is refused with, unless one ahead of it was.
func (m *maker) keep(e api.Errno) {
	if m.first == api.OK {
		m.first = e
	}
}

// part tells a part that is a term.
func (m *maker) part(t api.Term, e api.Errno) api.Term {
	m.keep(e)
	return t
}

// row tells a part that is a formula, or a face.
func (m *maker) row(r []api.Clause, e api.Errno) []api.Clause {
	m.keep(e)
	return r
}

// lifted tells a term under so many binders more.
func (m *maker) lifted(t api.Term, vars, dims int) api.Term { return m.part(lift.Both(t, vars, dims)) }

// steady tells the line that is a term everywhere, under so many binders of variables more.
func (m *maker) steady(t api.Term, vars int) api.Term { return m.lifted(t, vars, 1) }

// done tells what was made, unless a part of it was refused, or the whole is. It is copied: so parts may stand in it as they were handed in, and in several places.
func (m *maker) done(t api.Term) (api.Term, api.Errno) {
	if m.first == api.OK {
		m.first = term.Formed(t)
	}
	if m.first != api.OK {
		return api.Term{}, m.first
	}
	return term.Copy(t), api.OK
}

// liner is a maker of lines within lines: j is the dimension of the inner one, i that of the outer one.
type liner struct{ maker }

// i and j tell the formulas of the two, where both are there.
func (l *liner) i() []api.Clause { return l.row(formula.Dim(1)) }
func (l *liner) j() []api.Clause { return l.row(formula.Dim(0)) }

// alone tells the formula of i, where j is not there.
func (l *liner) alone() []api.Clause { return l.row(formula.Dim(0)) }

// isOne and isZero tell where i is 1, and 0, where j is not there.
func (l *liner) isOne() []api.Clause  { return l.row(face.Of(l.alone())) }
func (l *liner) isZero() []api.Clause { return l.row(face.OfZero(l.alone())) }

// within tells what a line is two binders further in, at a formula of i and j.
func (l *liner) within(line api.Term, r []api.Clause) api.Term {
	further := l.part(lift.Dims(line, 1, 2))
	return l.part(dims.Take(further, 0, r))
}

// up tells a face behind one binder more.
func (l *liner) up(f []api.Clause) []api.Clause { return l.row(formula.Lift(f, 0, 1)) }
