package lift

import (
	"math"
	"testing"

	"hypercube/api"
	"hypercube/sample"
	"hypercube/term"
)

// row is what a formula is written as, and a face.
type row = []api.Clause

// Short names for what the tests write most.
var (
	pos, neg, both        = sample.Pos, sample.Neg, sample.Both
	node, with, grown     = sample.Node, sample.With, sample.Grown
	variable, loop, times = sample.Var, sample.Loop, sample.Times
	lam, plam, fst        = sample.Lam, sample.PLam, sample.Fst
	inEachPlace, parts    = sample.InEachPlace, sample.Parts
)

var univ = api.Term{Kind: api.Univ}

const billion = 1000000000

// answer holds an answer against what is wanted: a term, or a refusal, which has none beside it.
func answer(t *testing.T, name string, got api.Term, e api.Errno, want api.Term, wantE api.Errno) {
	t.Helper()
	if wantE != api.OK {
		want = api.Term{}
	}
	if e != wantE || !term.Same(got, want) {
		t.Errorf("%s = %v, %d, not %v, %d", name, got, e, want, wantE)
	}
}

// P11.1.

func TestExamples(t *testing.T) {
	got, e := Vars(lam(node(api.App, variable(0), variable(1))), 0, 2)
	answer(t, "Vars", got, e, lam(node(api.App, variable(0), variable(3))), api.OK)
	got, e = Dims(plam(with(node(api.Loop), row{pos(3)})), 0, 1)
	answer(t, "Dims", got, e, plam(with(node(api.Loop), row{pos(5)})), api.OK)
}

func TestVars(t *testing.T) {
	app := node(api.App, variable(0), lam(node(api.App, variable(0), variable(1))))
	for _, x := range []struct {
		t        api.Term
		from, by int
		want     api.Term
	}{
		{variable(0), 0, 0, variable(0)}, {variable(0), 0, 1, variable(1)}, {variable(5), 0, 7, variable(12)}, {variable(0), 1, 1, variable(0)}, {variable(5), 5, 1, variable(6)}, {variable(5), 6, 1, variable(5)}, {variable(4), 5, 9, variable(4)},
		{lam(variable(0)), 0, 3, lam(variable(0))}, {lam(variable(1)), 0, 3, lam(variable(4))}, {lam(variable(1)), 1, 3, lam(variable(1))}, {lam(variable(2)), 1, 3, lam(variable(5))}, {lam(variable(3)), 3, 3, lam(variable(3))},
		{lam(lam(variable(1))), 0, 2, lam(lam(variable(1)))}, {lam(lam(variable(2))), 0, 2, lam(lam(variable(4)))}, {lam(lam(variable(2))), 1, 2, lam(lam(variable(2)))}, {times(199, variable(198), lam), 0, 5, times(199, variable(198), lam)}, {times(199, variable(199), lam), 0, 5, times(199, variable(204), lam)}, {times(199, variable(199), lam), 1, 5, times(199, variable(199), lam)},
		{app, 0, 2, node(api.App, variable(2), lam(node(api.App, variable(0), variable(3))))}, {app, 1, 2, app},
		{plam(variable(0)), 0, 1, plam(variable(1))}, {lam(plam(lam(variable(2)))), 0, 1, lam(plam(lam(variable(3))))},
		{variable(0), 0, 1000000, variable(1000000)}, {variable(1), 1, 1000000, variable(1000001)}, {univ, 0, 1000000, univ}, {univ, math.MaxInt, 1000000, univ}, {variable(7), math.MaxInt, 1, variable(7)}, {lam(variable(7)), math.MaxInt, 1000000, lam(variable(7))},
		// Formulas and faces stay, and so do names.
		{loop(23), 0, 5, loop(23)}, {plam(loop(23)), 0, 5, plam(loop(23))}, {api.Term{Kind: api.Const, Name: "a1_"}, 0, 5, api.Term{Kind: api.Const, Name: "a1_"}}, {with(node(api.Transp, variable(0), variable(1)), row{neg(1), pos(1)}), 1, 1, with(node(api.Transp, variable(0), variable(2)), row{neg(1), pos(1)})},
	} {
		got, e := Vars(x.t, x.from, x.by)
		answer(t, "Vars", got, e, x.want, api.OK)
	}
}

func TestVarsOfEachKind(t *testing.T) {
	f, face := row{neg(1), both(2, 2)}, row{neg(1), pos(1)}
	for branches := range 4 {
		before := inEachPlace(branches, parts('x', node(api.Pair, variable(0), lam(variable(1))), node(api.Pair, variable(0), lam(variable(2)))), f, face)
		from0 := inEachPlace(branches, parts('x', node(api.Pair, variable(3), lam(variable(4))), node(api.Pair, variable(0), lam(variable(5)))), f, face)
		for k, x := range before {
			want0 := from0[k]
			if x.Kind == api.Var {
				want0 = variable(3)
			}
			got, e := Vars(x, 0, 3)
			answer(t, "Vars from 0 on", got, e, want0, api.OK)
			got, e = Vars(x, 1, 3)
			answer(t, "Vars from 1 on", got, e, x, api.OK)
		}
	}
}

// The greatest variable that there may be, and one more.
func TestVarsAtTheLast(t *testing.T) {
	for _, x := range []struct {
		n, from, by int
		want        api.Errno
	}{
		{billion - 1, 0, 1, api.OK}, {billion, 0, 0, api.OK}, {billion, 0, 1, api.ErrTerm}, {billion + 1, 0, 0, api.ErrTerm}, {billion + 1, 0, 1, api.ErrTerm}, {billion - 1, 0, 2, api.ErrTerm},
		{billion - 1000000, 0, 1000000, api.OK}, {billion - 999999, 0, 1000000, api.ErrTerm}, {billion, billion, 0, api.OK}, {billion, billion, 1, api.ErrTerm}, {billion - 1, billion - 1, 1, api.OK}, {billion + 1, billion + 1, 0, api.ErrTerm},
		{math.MaxInt, 0, 0, api.ErrTerm}, {math.MaxInt, 0, 1, api.ErrTerm}, {math.MaxInt, 0, 1000000, api.ErrTerm}, {math.MaxInt, math.MaxInt, 0, api.ErrTerm}, {math.MaxInt, math.MaxInt, 1000000, api.ErrTerm},
	} {
		want := variable(x.n + x.by)
		got, e := Vars(variable(x.n), x.from, x.by)
		answer(t, "Vars", got, e, want, x.want)
		got, e = Vars(node(api.App, univ, variable(x.n)), x.from, x.by)
		answer(t, "Vars", got, e, node(api.App, univ, want), x.want)
		got, e = Vars(plam(variable(x.n)), x.from, x.by)
		answer(t, "Vars", got, e, plam(want), x.want)
		// Behind a binder the number counts, not what it is of the outside.
		if x.n > x.from {
			got, e = Vars(lam(variable(x.n)), x.from, x.by)
			answer(t, "Vars", got, e, lam(want), x.want)
		}
		// What is not from from on is not lifted, and not refused.
		for _, x := range []api.Term{lam(variable(x.n)), lam(node(api.Pair, variable(0), variable(x.n)))} {
			got, e = Vars(x, math.MaxInt, 1)
			answer(t, "Vars", got, e, x, api.OK)
		}
		if x.n < math.MaxInt {
			got, e = Vars(variable(x.n), x.n+1, x.by)
			answer(t, "Vars", got, e, variable(x.n), api.OK)
			got, e = Vars(lam(variable(x.n)), x.n, x.by)
			answer(t, "Vars", got, e, lam(variable(x.n)), api.OK)
		}
	}
	// What is bound is not lifted, so that it is not refused either.
	got, e := Vars(times(199, variable(198), lam), 0, 1000000)
	answer(t, "Vars", got, e, times(199, variable(198), lam), api.OK)
}

// P11.2.

func TestDims(t *testing.T) {
	loops := func(r ...api.Clause) api.Term { return with(node(api.Loop), r) }
	for _, x := range []struct {
		t        api.Term
		from, by int
		want     api.Term
	}{
		{loop(0), 0, 0, loop(0)}, {loop(0), 0, 1, loop(1)}, {loop(0), 1, 1, loop(0)}, {loop(5), 5, 2, loop(7)}, {loop(5), 6, 2, loop(5)}, {loop(5), 4, 2, loop(7)}, {loop(0), 0, 23, loop(23)}, {loop(22), 22, 1, loop(23)}, {loop(23), 24, 1, loop(23)}, {loop(23), 23, 0, loop(23)},
		{plam(loop(0)), 0, 1, plam(loop(0))}, {plam(loop(1)), 0, 1, plam(loop(2))}, {plam(loop(1)), 1, 1, plam(loop(1))}, {plam(loop(2)), 1, 4, plam(loop(6))}, {plam(plam(loop(1))), 0, 9, plam(plam(loop(1)))}, {plam(plam(loop(2))), 0, 9, plam(plam(loop(11)))}, {lam(loop(0)), 0, 1, lam(loop(1))},
		{times(24, loop(23), plam), 0, 1, times(24, loop(23), plam)}, {times(23, loop(22), plam), 0, 1, times(23, loop(22), plam)}, {times(22, loop(22), plam), 0, 1, times(22, loop(23), plam)}, {times(199, loop(23), plam), 0, 1000000, times(199, loop(23), plam)},
		{univ, 0, 1000000, univ}, {loop(23), 24, 1000000, loop(23)}, {loop(23), math.MaxInt, 1000000, loop(23)}, {plam(loop(23)), math.MaxInt, 1, plam(loop(23))}, {plam(loop(0)), 0, 1000000, plam(loop(0))},
		{loops(), 0, 1000000, loops()}, {loops(api.Clause{}), 0, 1000000, loops(api.Clause{})}, {loops(both(1, 1)), 0, 2, loops(both(4, 4))}, {loops(neg(3)), 1, 1, loops(neg(5))}, {loops(neg(2), pos(2)), 0, 1, loops(neg(4), pos(4))}, {loops(sample.Pairs(55)...), 0, 12, loops(shifted(sample.Pairs(55), 12)...)},
		// Variables stay, and so do names.
		{variable(7), 0, 3, variable(7)}, {lam(variable(0)), 0, 3, lam(variable(0))}, {plam(variable(0)), 0, 3, plam(variable(0))}, {api.Term{Kind: api.Const, Name: "a1_"}, 0, 5, api.Term{Kind: api.Const, Name: "a1_"}},
	} {
		got, e := Dims(x.t, x.from, x.by)
		answer(t, "Dims", got, e, x.want, api.OK)
	}
}

func shifted(r row, by int) row {
	var out row
	for _, c := range r {
		out = append(out, both(c.Pos<<by, c.Neg<<by))
	}
	return out
}

func TestDimsOfEachKind(t *testing.T) {
	f, face := row{neg(1), both(2, 2)}, row{neg(1), pos(1)}
	for branches := range 4 {
		before := inEachPlace(branches, parts('i', node(api.Pair, loop(0), plam(loop(1))), node(api.Pair, loop(0), plam(loop(2)))), f, face)
		lifted := inEachPlace(branches, parts('i', node(api.Pair, loop(3), plam(loop(4))), node(api.Pair, loop(0), plam(loop(5)))), shifted(f, 3), shifted(face, 3))
		for k, x := range before {
			got, e := Dims(x, 0, 3)
			answer(t, "Dims from 0 on", got, e, lifted[k], api.OK)
			got, e = Dims(x, 2, 3)
			answer(t, "Dims from 2 on", got, e, x, api.OK)
		}
	}
}

// rowsAt tells terms that have a formula or a face at a dimension, wherever one may stand behind no binder of dimensions, some with a lesser one beside it.
func rowsAt(i, less int) map[string]api.Term {
	p, n := row{pos(1 << i)}, row{neg(1 << i)}
	glue, branch := node(api.Glue, univ), row{{}}
	return map[string]api.Term{
		"PApp": with(node(api.PApp, univ, univ, univ), p), "Loop": with(node(api.Loop), n), "Merid": with(node(api.Merid, univ), p), "Transp": with(node(api.Transp, univ, univ), n),
		"HComp": grown(node(api.HComp, univ, univ), p, univ), "Glue": grown(glue, n, univ, univ), "MkGlue": grown(node(api.MkGlue, univ), p, univ), "Unglue": grown(node(api.Unglue, univ), n, univ),
		"a second branch": grown(grown(glue, branch, univ, univ), p, univ, univ), "one clause of two": with(node(api.Loop), row{pos(1 << less), p[0]}), "a part of a clause": with(node(api.Loop), row{both(1<<less, 1<<i)}),
		"a kid": fst(loop(i)), "the last of five": node(api.SuspEl, univ, univ, univ, univ, loop(i)), "behind a variable": lam(loop(i)),
		"in a branch of Glue": grown(glue, branch, univ, loop(i)), "in a branch of MkGlue": grown(node(api.MkGlue, univ), branch, loop(i)), "in a branch of Unglue": grown(node(api.Unglue, univ), branch, loop(i)), "in a second branch": grown(grown(glue, branch, univ, univ), branch, loop(i), univ),
		"a Path's end": node(api.Path, univ, loop(i), univ), "what Transp carries": node(api.Transp, univ, loop(i)), "an HComp's type": node(api.HComp, loop(i), univ), "an HComp's base": node(api.HComp, univ, loop(i)),
	}
}

// rowsBehindOne tells terms that have a formula at a dimension, behind one binder of dimensions.
func rowsBehindOne(i int) map[string]api.Term {
	return map[string]api.Term{
		"PLam": plam(loop(i)), "Path": node(api.Path, loop(i), univ, univ), "Transp": node(api.Transp, loop(i), univ), "a face": plam(grown(node(api.HComp, univ, univ), row{neg(1 << i)}, univ)),
		"in a branch of HComp": grown(node(api.HComp, univ, univ), row{{}}, loop(i)), "in a second branch of HComp": grown(grown(node(api.HComp, univ, univ), row{{}}, univ), nil, fst(loop(i))),
	}
}

// A dimension that becomes the last one, and one that would be beyond it.
func TestDimsAtTheLast(t *testing.T) {
	for by := 1; by <= 22; by++ {
		last := 23 - by
		for name, x := range rowsAt(last, last-1) {
			got, e := Dims(x, last, by)
			answer(t, name, got, e, rowsAt(23, last-1)[name], api.OK)
			got, e = Dims(x, last, by+1)
			answer(t, name, got, e, api.Term{}, api.ErrDims)
			got, e = Dims(x, last+1, by+1)
			answer(t, name, got, e, x, api.OK)
		}
		for name, x := range rowsBehindOne(last) {
			got, e := Dims(x, last-1, by)
			answer(t, name, got, e, rowsBehindOne(23)[name], api.OK)
			got, e = Dims(x, last-1, by+1)
			answer(t, name, got, e, api.Term{}, api.ErrDims)
			got, e = Dims(x, last, by+1)
			answer(t, name, got, e, x, api.OK)
		}
	}
	for name, x := range rowsAt(23, 22) {
		for _, by := range []int{1, 2, 8, 9, 23, 24, 31, 32, 40, 64, 1000000} {
			got, e := Dims(x, 23, by)
			answer(t, name, got, e, api.Term{}, api.ErrDims)
			got, e = Dims(x, 0, by)
			answer(t, name, got, e, api.Term{}, api.ErrDims)
			got, e = Dims(x, 24, by)
			answer(t, name, got, e, x, api.OK)
		}
	}
}
