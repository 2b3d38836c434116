package build

import (
	"testing"

	"hypercube/api"
	"hypercube/dims"
	"hypercube/face"
	"hypercube/formula"
	"hypercube/lift"
	"hypercube/sample"
	"hypercube/term"
)

// parts makes the parts of an answer by the chapter's words, one at a time: each tells the term, or the refusal at which all ends.
type parts []func() (api.Term, api.Errno)

// made tells all parts, or what the first one of them is refused with.
func (p parts) made() ([]api.Term, api.Errno) {
	var out []api.Term
	for _, part := range p {
		t, e := part()
		if e != api.OK {
			return nil, e
		}
		out = append(out, t)
	}
	return out, api.OK
}

// asItIs is a part that is handed in.
func asItIs(t api.Term) func() (api.Term, api.Errno) {
	return func() (api.Term, api.Errno) { return t, api.OK }
}

// under is a part behind so many more binders.
func under(t api.Term, vars, dims int) func() (api.Term, api.Errno) {
	return func() (api.Term, api.Errno) { return lift.Both(t, vars, dims) }
}

// inside is a line two binders further in, at a formula.
func inside(line api.Term, r ...api.Clause) func() (api.Term, api.Errno) {
	return func() (api.Term, api.Errno) {
		plus, e := lift.Dims(line, 1, 2)
		if e != api.OK {
			return plus, e
		}
		return dims.Take(plus, 0, r)
	}
}

// aFace is a part that is a face, in a term that has it.
func aFace(f row, e api.Errno) func() (api.Term, api.Errno) {
	return func() (api.Term, api.Errno) { return loops(f...), e }
}

// whole puts the parts together, unless one is refused, or the whole is.
func (p parts) whole(what func(l []api.Term) api.Term) (api.Term, api.Errno) {
	l, e := p.made()
	if e != api.OK {
		return api.Term{}, e
	}
	out := what(l)
	return out, term.Formed(out)
}

// right tells what is refused ahead of all making.
func right(l ...api.Term) api.Errno {
	for _, t := range l {
		if e := term.Formed(t); e != api.OK {
			return e
		}
	}
	return api.OK
}

func compModel(x args) (api.Term, api.Errno) {
	if e := right(x.t, x.a, composed(univ, univ, x.sys...)); e != api.OK {
		return api.Term{}, e
	}
	p := parts{func() (api.Term, api.Errno) { return dims.Take(x.t, 0, always) }}
	for _, b := range x.sys {
		p = append(p, inside(x.t, pos(1), pos(2)), asItIs(b.Kids[0]))
	}
	return p.whole(func(l []api.Term) api.Term {
		out := composed(l[0], carry(never, x.t, x.a))
		for n, b := range x.sys {
			out = grown(out, b.Face, carry(row{pos(1)}, l[1+2*n], l[2+2*n]))
		}
		return out
	})
}

func fillModel(x args) (api.Term, api.Errno) {
	if e := right(x.t, x.a, composed(univ, univ, x.sys...)); e != api.OK {
		return api.Term{}, e
	}
	p := parts{under(x.t, 0, 1), under(x.a, 0, 1)}
	for _, b := range x.sys {
		p = append(p, aFace(formula.Lift(b.Face, 0, 1)), inside(b.Kids[0], pos(3)))
	}
	return append(p, under(x.a, 0, 2)).whole(func(l []api.Term) api.Term {
		out := composed(l[0], l[1])
		for n := range x.sys {
			out = grown(out, l[2+2*n].R, l[3+2*n])
		}
		return grown(out, row{neg(1)}, l[len(l)-1])
	})
}

// alongModel tells what Run is to be, and Back, by the end and the formula.
func alongModel(end api.Clause, r ...api.Clause) func(args) (api.Term, api.Errno) {
	return func(x args) (api.Term, api.Errno) {
		if e := right(x.t, x.a); e != api.OK {
			return api.Term{}, e
		}
		if !face.Right(x.phi) {
			return api.Term{}, api.ErrArg
		}
		where, e := formula.Lift(x.phi, 0, 1)
		if e == api.OK {
			where, e = face.Join(where, row{end})
		}
		return parts{aFace(where, e), inside(x.t, r...), under(x.a, 0, 1)}.whole(func(l []api.Term) api.Term { return carry(l[0].R, l[1], l[2]) })
	}
}

func fiberModel(x args) (api.Term, api.Errno) {
	if e := right(x.t, x.a, x.f, x.y); e != api.OK {
		return api.Term{}, e
	}
	return parts{under(x.a, 1, 1), under(x.y, 1, 0), under(x.f, 1, 0)}.whole(func(l []api.Term) api.Term {
		return of(api.Sigma, x.t, of(api.Path, l[0], l[1], of(api.App, l[2], v(0))))
	})
}

func contrModel(x args) (api.Term, api.Errno) {
	if e := right(x.t); e != api.OK {
		return api.Term{}, e
	}
	return parts{under(x.t, 1, 0), under(x.t, 2, 1)}.whole(func(l []api.Term) api.Term {
		return of(api.Sigma, x.t, of(api.Pi, l[0], of(api.Path, l[1], v(1), v(0))))
	})
}

func equivModel(x args) (api.Term, api.Errno) {
	if e := right(x.t, x.a); e != api.OK {
		return api.Term{}, e
	}
	inner := func() (api.Term, api.Errno) {
		l, e := parts{under(x.t, 2, 0), under(x.a, 2, 0)}.made()
		if e != api.OK {
			return api.Term{}, e
		}
		fibers, e := fiberModel(args{t: l[0], a: l[1], f: v(1), y: v(0)})
		if e != api.OK {
			return api.Term{}, e
		}
		return contrModel(args{t: fibers})
	}
	return parts{under(x.a, 1, 0), inner}.whole(func(l []api.Term) api.Term {
		return of(api.Sigma, of(api.Pi, x.t, l[0]), of(api.Pi, l[0], l[1]))
	})
}

func models() map[string]call {
	return map[string]call{
		"Comp": compModel, "Fill": fillModel, "Run": alongModel(neg(1), pos(3)), "Back": alongModel(pos(1), neg(1), pos(2)),
		"Fiber": fiberModel, "Contr": contrModel, "Equiv": equivModel,
	}
}

// someArgs tells arguments in so many variables and dimensions: most may be, some have far variables, few are spoilt.
func someArgs(g *sample.Grower, vars, dims, branches int) args {
	some := func(nodes, more int) api.Term {
		x := g.Term(vars, min(dims+more, 24), g.Below(nodes))
		switch g.Below(40) {
		case 0:
			x = g.Far(x)
		case 1:
			if g.Below(3) == 0 {
				x = g.Spoilt(x)
			}
		case 2, 3, 4:
			x = pair(x, wide(30+g.Below(5), both(uint32(g.Below(2)), uint32(g.Below(2)))))
		case 5, 6:
			x = times(150+g.Below(50), x, fst)
		case 7:
			if g.Below(10) == 0 {
				x = pair(x, sample.Balanced(9950))
			}
		}
		return x
	}
	x := args{t: some(60, 1), a: some(40, 0), f: some(20, 0), y: some(20, 0), phi: g.Row(dims, true)}
	for range branches {
		x.sys = append(x.sys, at(g.Row(dims, true), some(40, 1)))
	}
	if g.Below(10) == 0 {
		x.phi = []row{sample.Pairs(64), {pos(sample.Last)}, {both(1, 1)}, {neg(sample.Last), pos(1)}}[g.Below(4)]
	}
	return x
}

// P15.1 to P15.4 by another road, on terms of all kinds.
func TestByTheModel(t *testing.T) {
	seen := map[string]map[api.Errno]int{}
	models := models()
	for seed := range uint32(3000) {
		g := sample.Grow(seed)
		x := someArgs(g, g.Below(5), []int{0, 1, 2, 3, 5, 9, 14, 20, 21, 22, 23, 24}[g.Below(12)], g.Below(4))
		for name, do := range calls() {
			got, e := do(x)
			want, wantE := models[name](x)
			answer(t, name, got, e, want, wantE)
			if seen[name] == nil {
				seen[name] = map[api.Errno]int{}
			}
			seen[name][e]++
		}
		if t.Failed() {
			t.Fatalf("the seed %d", seed)
		}
	}
	// Answers that are too great take long to make, and are told by tests of their own: of those there are few.
	for name, all := range map[string][]api.Errno{
		"Comp": {api.OK, api.ErrTerm, api.ErrDims, api.ErrBig, api.ErrDeep}, "Fill": {api.OK, api.ErrTerm, api.ErrDims, api.ErrBig}, "Run": {api.OK, api.ErrTerm, api.ErrArg, api.ErrDims, api.ErrBig}, "Back": {api.OK, api.ErrTerm, api.ErrArg, api.ErrDims, api.ErrBig},
		"Fiber": {api.OK, api.ErrTerm, api.ErrDims, api.ErrDeep}, "Contr": {api.OK, api.ErrTerm, api.ErrDims}, "Equiv": {api.OK, api.ErrTerm, api.ErrDims, api.ErrDeep},
	} {
		for _, e := range all {
			if seen[name][e] < 10 {
				t.Errorf("%s: the answer %d was there %d times only", name, e, seen[name][e])
			}
		}
	}
}
