package plug

import (
	"math"
	"testing"

	"hypercube/api"
	"hypercube/sample"
	"hypercube/term"
)

// row is what a formula is written as, and a face.
type row = []api.Clause

// Short names for what the tests write most.
var (
	pos, neg, both        = sample.Pos, sample.Neg, sample.Both
	node, with, grown     = sample.Node, sample.With, sample.Grown
	variable, loop, times = sample.Var, sample.Loop, sample.Times
	lam, plam, fst        = sample.Lam, sample.PLam, sample.Fst
)

var univ = api.Term{Kind: api.Univ}

// billion is the last variable that a lift may tell.
const billion = 1000000000

func pair(a, b api.Term) api.Term { return node(api.Pair, a, b) }

// branch tells a term as a branch of a composition, which binds a dimension in it.
func branch(t api.Term) api.Term { return grown(node(api.HComp, univ, univ), row{neg(1)}, t) }

// answer holds an answer of At against what is wanted: a term, or a refusal, which has none beside it.
func answer(t *testing.T, name string, got api.Term, e api.Errno, want api.Term, wantE api.Errno) {
	t.Helper()
	if wantE != api.OK {
		want = api.Term{}
	}
	if e != wantE || !term.Same(got, want) {
		t.Errorf("%s = %v, %d, not %v, %d", name, got, e, want, wantE)
	}
}

// counted holds an answer of Count against what is wanted.
func counted(t *testing.T, x api.Term, n, want int, wantE api.Errno) {
	t.Helper()
	if got, e := Count(x, n); got != want || e != wantE {
		t.Errorf("Count(%v, %d) = %d, %d, not %d, %d", x, n, got, e, want, wantE)
	}
}

// P12.1.

func TestCount(t *testing.T) {
	many := sample.Bushy(20000)
	for k := range many.Sys {
		many.Sys[k].Kids[0] = variable(k % 2)
	}
	for _, x := range []struct {
		t       api.Term
		n, want int
	}{
		{univ, 0, 0}, {loop(0), 0, 0}, {api.Term{Kind: api.Const, Name: "x0"}, 0, 0}, {variable(0), 0, 1}, {variable(0), 1, 0}, {variable(1), 0, 0}, {variable(1), 1, 1}, {variable(7), 7, 1}, {variable(7), 6, 0}, {variable(7), 8, 0},
		{pair(variable(1), variable(1)), 1, 2}, {pair(variable(1), variable(0)), 1, 1}, {pair(variable(1), variable(0)), 0, 1}, {pair(variable(1), variable(0)), 2, 0},
		{lam(variable(0)), 0, 0}, {lam(variable(1)), 0, 1}, {lam(variable(1)), 1, 0}, {lam(variable(0)), 1, 0}, {lam(variable(4)), 3, 1}, {lam(lam(variable(1))), 0, 0}, {lam(lam(variable(2))), 0, 1}, {lam(lam(variable(2))), 1, 0},
		{plam(variable(0)), 0, 1}, {plam(variable(1)), 0, 0}, {branch(variable(0)), 0, 1}, {branch(variable(1)), 0, 0}, {lam(plam(lam(variable(2)))), 0, 1}, {lam(plam(lam(variable(1)))), 0, 0},
		{pair(variable(0), lam(pair(variable(0), pair(variable(1), lam(variable(2)))))), 0, 3},
		{times(199, variable(198), lam), 0, 0}, {times(199, variable(199), lam), 0, 1}, {times(199, variable(199), lam), 1, 0}, {times(199, variable(200), lam), 0, 0}, {times(199, variable(200), lam), 1, 1},
		{variable(math.MaxInt), math.MaxInt, 1}, {variable(math.MaxInt), math.MaxInt - 1, 0}, {lam(variable(math.MaxInt)), math.MaxInt, 0}, {lam(variable(math.MaxInt)), math.MaxInt - 1, 1}, {lam(variable(0)), math.MaxInt, 0}, {times(199, variable(0), lam), math.MaxInt, 0}, {times(199, variable(math.MaxInt), lam), math.MaxInt - 199, 1},
		{many, 0, 9999}, {many, 1, 9999}, {many, 2, 0},
	} {
		counted(t, x.t, x.n, x.want, api.OK)
	}
}

// partsOf tells what stands in a place by its letter, made of how many variables and dimensions that binds.
func partsOf(made func(vars, dims int) api.Term) func(byte) api.Term {
	return func(letter byte) api.Term { return made(sample.Inside(letter, 0, 0)) }
}

// around tells a part behind so many binders: what stands there behind no more, behind one more of each sort, and behind several; beside it bound variables, one of the outside that is below, and one that is above.
func around(vars, dims int, at func(vars, dims int) api.Term, below, above int) api.Term {
	bound := lam(pair(variable(0), plam(lam(variable(1)))))
	next := pair(variable(vars+above), lam(pair(variable(vars+1+below), variable(vars+1+above))))
	several := plam(lam(pair(at(vars+1, dims+1), branch(at(vars+1, dims+2)))))
	return pair(pair(at(vars, dims), lam(at(vars+1, dims))), pair(pair(bound, next), pair(plam(at(vars, dims+1)), several)))
}

func TestCountOfEachKind(t *testing.T) {
	const n = 3
	at := func(vars, _ int) api.Term { return variable(n + vars) }
	part := partsOf(func(vars, dims int) api.Term { return around(vars, dims, at, n-1, n+1) })
	forms := sample.Forms()
	for branches := range 4 {
		for _, x := range sample.InEachPlace(branches, part, row{neg(1)}, row{pos(1)}) {
			f := forms[x.Kind]
			places := len(f.Kids) + branches*len(f.Branch)
			counted(t, x, n, 5*places, api.OK)
			counted(t, x, n+1, 2*places, api.OK)
			counted(t, x, n-1, places, api.OK)
			counted(t, x, n+2, 0, api.OK)
			counted(t, x, n-2, 0, api.OK)
		}
	}
}

// P12.2.

func TestExamples(t *testing.T) {
	got, e := At(node(api.App, variable(0), variable(1)), 0, univ)
	answer(t, "At", got, e, node(api.App, univ, variable(0)), api.OK)
	got, e = At(lam(node(api.App, variable(1), variable(0))), 0, variable(5))
	answer(t, "At", got, e, lam(node(api.App, variable(6), variable(0))), api.OK)
}

func TestAt(t *testing.T) {
	constant, named := api.Term{Kind: api.Const, Name: "a1_"}, api.Term{Kind: api.Const, Name: "Z"}
	carried := with(node(api.Transp, variable(1), variable(0)), row{neg(1), pos(1)})
	for _, x := range []struct {
		t    api.Term
		n    int
		u    api.Term
		want api.Term
	}{
		// The variable, and those next to it.
		{variable(0), 0, univ, univ}, {variable(1), 0, univ, variable(0)}, {variable(0), 1, univ, variable(0)}, {variable(5), 5, univ, univ}, {variable(4), 5, univ, variable(4)}, {variable(6), 5, univ, variable(5)}, {variable(7), 5, univ, variable(6)}, {variable(900), 5, univ, variable(899)},
		{variable(0), 0, variable(0), variable(0)}, {variable(0), 0, variable(3), variable(3)}, {variable(3), 3, variable(7), variable(7)}, {variable(3), 3, variable(3), variable(3)}, {variable(3), 3, variable(4), variable(4)},
		// Never, once, several times.
		{univ, 0, variable(0), univ}, {loop(0), 0, univ, loop(0)}, {constant, 0, univ, constant}, {variable(0), 0, constant, constant}, {pair(constant, variable(0)), 0, named, pair(constant, named)}, {pair(variable(0), variable(0)), 0, loop(1), pair(loop(1), loop(1))}, {pair(variable(0), pair(variable(1), variable(0))), 0, fst(variable(0)), pair(fst(variable(0)), pair(variable(0), fst(variable(0))))},
		// Behind binders.
		{lam(variable(0)), 0, univ, lam(variable(0))}, {lam(variable(1)), 0, variable(0), lam(variable(1))}, {lam(variable(2)), 0, univ, lam(variable(1))}, {lam(variable(1)), 1, univ, lam(variable(1))}, {lam(lam(variable(2))), 0, variable(3), lam(lam(variable(5)))}, {lam(lam(variable(1))), 0, variable(3), lam(lam(variable(1)))}, {lam(lam(variable(3))), 0, variable(3), lam(lam(variable(2)))},
		{plam(variable(0)), 0, pair(variable(2), loop(2)), plam(pair(variable(2), loop(3)))}, {plam(plam(variable(0))), 0, loop(0), plam(plam(loop(2)))}, {branch(variable(0)), 0, loop(0), branch(loop(1))}, {lam(plam(variable(1))), 0, pair(variable(2), loop(2)), lam(plam(pair(variable(3), loop(3))))}, {plam(loop(0)), 0, univ, plam(loop(0))},
		// What is put in binds, too: its own stay.
		{lam(variable(1)), 0, lam(pair(variable(0), variable(1))), lam(lam(pair(variable(0), variable(2))))}, {plam(variable(0)), 0, plam(pair(loop(0), loop(1))), plam(plam(pair(loop(0), loop(2))))}, {plam(variable(0)), 0, branch(pair(loop(0), loop(1))), plam(grown(node(api.HComp, univ, univ), row{neg(2)}, pair(loop(0), loop(2))))},
		{times(199, variable(199), lam), 0, variable(5), times(199, variable(204), lam)}, {times(199, variable(198), lam), 0, variable(5), times(199, variable(198), lam)}, {times(199, variable(200), lam), 0, variable(5), times(199, variable(199), lam)}, {times(199, variable(0), plam), 0, node(api.Base), times(199, node(api.Base), plam)},
		// The greatest number there is.
		{variable(math.MaxInt), math.MaxInt, univ, univ}, {variable(math.MaxInt), math.MaxInt - 1, univ, variable(math.MaxInt - 1)}, {variable(math.MaxInt), 0, univ, variable(math.MaxInt - 1)}, {variable(math.MaxInt - 1), math.MaxInt, univ, variable(math.MaxInt - 1)}, {lam(variable(math.MaxInt)), math.MaxInt, univ, lam(variable(math.MaxInt))}, {lam(variable(math.MaxInt)), math.MaxInt - 1, univ, lam(univ)}, {lam(variable(math.MaxInt)), math.MaxInt - 2, univ, lam(variable(math.MaxInt - 1))}, {lam(lam(variable(0))), math.MaxInt, univ, lam(lam(variable(0)))},
		// Formulas and faces stay.
		{carried, 1, univ, with(node(api.Transp, univ, variable(0)), row{neg(1), pos(1)})}, {carried, 0, univ, with(node(api.Transp, variable(0), univ), row{neg(1), pos(1)})}, {with(node(api.PApp, variable(0), variable(1), variable(2)), row{both(2, 1)}), 1, loop(4), with(node(api.PApp, variable(0), loop(4), variable(1)), row{both(2, 1)})},
		{grown(grown(node(api.Glue, variable(0)), nil, variable(0), variable(1)), row{{}}, variable(2), variable(0)), 0, constant, grown(grown(node(api.Glue, constant), nil, constant, variable(0)), row{{}}, variable(1), constant)},
	} {
		got, e := At(x.t, x.n, x.u)
		answer(t, "At", got, e, x.want, api.OK)
	}
}

func TestAtOfEachKind(t *testing.T) {
	const n = 3
	f, face := row{neg(1), both(2, 2)}, row{neg(1), pos(1)}
	u := pair(variable(7), grown(node(api.HComp, loop(2), univ), row{neg(4)}, loop(3)))
	lifted := func(vars, dims int) api.Term {
		return pair(variable(7+vars), grown(node(api.HComp, loop(2+dims), univ), row{neg(4 << dims)}, loop(3+dims)))
	}
	here := func(vars, _ int) api.Term { return variable(n + vars) }
	for branches := range 4 {
		before := sample.InEachPlace(branches, partsOf(func(vars, dims int) api.Term { return around(vars, dims, here, n-1, n+1) }), f, face)
		after := sample.InEachPlace(branches, partsOf(func(vars, dims int) api.Term { return around(vars, dims, lifted, n-1, n) }), f, face)
		for k, x := range before {
			got, e := At(x, n, u)
			answer(t, "At", got, e, after[k], api.OK)
			got, e = At(x, 100, u)
			answer(t, "At of one that does not stand there", got, e, x, api.OK)
		}
	}
}

// What is put in is a term of each kind.
func TestEachKindIsPutIn(t *testing.T) {
	f, face := row{neg(1), both(2, 2)}, row{neg(1), pos(1)}
	part := func(vars, dims int) func(byte) api.Term {
		return partsOf(func(v, d int) api.Term {
			return pair(pair(variable(4+vars+v), loop(2+dims+d)), lam(plam(pair(variable(0), loop(0)))))
		})
	}
	shifted := func(r row) (out row) {
		for _, c := range r {
			out = append(out, both(c.Pos<<2, c.Neg<<2))
		}
		return out
	}
	for branches := range 4 {
		here := sample.InEachPlace(branches, part(0, 0), f, face)
		inside := sample.InEachPlace(branches, part(3, 2), shifted(f), shifted(face))
		for k, u := range here {
			if u.Kind == api.Var {
				inside[k] = variable(3)
			}
			around := func(in api.Term) api.Term { return lam(branch(lam(plam(lam(in))))) }
			got, e := At(pair(variable(1), around(variable(4))), 1, u)
			answer(t, "At", got, e, pair(u, around(inside[k])), api.OK)
		}
	}
}
