package build

import (
	"fmt"
	"testing"

	"hypercube/api"
	"hypercube/sample"
	"hypercube/term"
)

// row is what a formula is written as, and a face.
type row = []api.Clause

// system is some branches.
type system = []api.Branch

// Short names for what the tests write most.
var (
	pos, neg, both      = sample.Pos, sample.Neg, sample.Both
	of, with, grown     = sample.Node, sample.With, sample.Grown
	v, loop, times      = sample.Var, sample.Loop, sample.Times
	lam, plam, fst      = sample.Lam, sample.PLam, sample.Fst
	univ, circle, point = of(api.Univ), of(api.Circle), of(api.Base)
)

var (
	never  = row{}
	always = row{{}}
)

func loops(r ...api.Clause) api.Term        { return with(of(api.Loop), r) }
func pair(a, b api.Term) api.Term           { return of(api.Pair, a, b) }
func at(f row, kids ...api.Term) api.Branch { return api.Branch{Face: f, Kids: kids} }

// carry tells the Transp of a line and what it carries, where a face is.
func carry(f row, line, a api.Term) api.Term { return with(of(api.Transp, line, a), f) }

// composed tells an HComp.
func composed(t, a api.Term, l ...api.Branch) api.Term {
	x := of(api.HComp, t, a)
	x.Sys = l
	return x
}

// answer holds an answer against what is wanted: a term, or a refusal, which has none beside it.
func answer(t *testing.T, name string, got api.Term, e api.Errno, want api.Term, wantE api.Errno) {
	t.Helper()
	if wantE != api.OK {
		want = api.Term{}
	}
	if e != wantE || !term.Same(got, want) {
		t.Errorf("%s = %s, %d, not %s, %d", name, short(got), e, short(want), wantE)
	}
}

// short tells how a term begins.
func short(t api.Term) string {
	text := fmt.Sprint(t)
	return text[:min(len(text), 500)]
}

func TestExamples(t *testing.T) {
	got, e := Run(univ, never, point)
	answer(t, "Run", got, e, carry(row{neg(1)}, univ, point), api.OK)
	got, e = Fill(circle, point, nil)
	answer(t, "Fill", got, e, composed(circle, point, at(row{neg(1)}, point)), api.OK)
}

// stuff is what the tests put in each place of a term: a variable of the outside, a formula and a dimension of it, and what is bound; and the place's own formula or face.
type stuff struct {
	n         int
	own       row
	out       int
	here, way row
}

// up tells a row behind so many binders of dimensions.
func up(r row, dims int) row {
	var out row
	for _, c := range r {
		out = append(out, both(c.Pos<<dims, c.Neg<<dims))
	}
	return out
}

// plain is stuff of terms, and each line is some of its dimension 0. What becomes of its formulas and faces is told by hand for each formula that is put there: i and -i are 1 and 2, the face's other dimension is out.
var (
	plain = stuff{3, row{pos(1)}, 1, row{neg(1), both(2, 2)}, row{neg(1), pos(2)}}
	atOne = stuff{3, always, 0, row{both(1, 1)}, row{pos(1)}}
	meet  = stuff{3, row{pos(3)}, 2, row{neg(1), neg(2), both(4, 4)}, row{neg(1), neg(2), pos(4)}}
	join  = stuff{3, row{pos(1), pos(2)}, 2, row{neg(3), both(4, 4)}, row{neg(3), pos(4)}}
	back  = stuff{3, row{neg(1), pos(2)}, 2, row{both(1, 2), both(4, 4)}, row{both(1, 2), pos(4)}}
)

// lifted tells what is under so many binders more.
func (s stuff) lifted(vars, dims int) stuff {
	return stuff{s.n + vars, up(s.own, dims), s.out + dims, up(s.here, dims), up(s.way, dims)}
}

// behind tells it where so many binders are that the place itself has.
func (s stuff) behind(vars, dims int) api.Term {
	here := func(vars, dims int) api.Term {
		return pair(v(s.n+vars), pair(loops(up(s.own, dims)...), loop(s.out+dims)))
	}
	x := pair(here(vars, dims), pair(lam(pair(v(0), here(vars+1, dims))), plam(pair(loop(0), here(vars, dims+1)))))
	if vars > 0 {
		x = pair(v(0), x)
	}
	if dims > 0 {
		x = pair(loop(0), x)
	}
	return x
}

// terms tells one of each kind, with so many branches where it has a system.
func (s stuff) terms(branches int) []api.Term {
	out := sample.InEachPlace(branches, func(letter byte) api.Term {
		vars, dims := sample.Inside(letter, 0, 0)
		return s.behind(vars, dims)
	}, s.here, s.way)
	for k := range out {
		if out[k].Kind == api.Var {
			out[k].N = s.n
		}
	}
	return out
}

// faces are those of branches: between, never, always, of several clauses; and each behind a binder.
func faces() []row { return []row{{pos(1)}, never, always, {pos(5), both(8, 2)}} }

// P15.1.

// Lines of all kinds, that use their dimension; the branches' faces and what they are of stay.
func TestComp(t *testing.T) {
	for branches := range 4 {
		lines, ends, rests := plain.terms(branches), atOne.terms(branches), join.terms(branches)
		for k, line := range lines {
			a := lines[(k+5)%len(lines)]
			var sys system
			want := composed(ends[k], carry(never, line, a))
			for n := range 5 {
				got, e := Comp(line, a, sys)
				answer(t, "Comp", got, e, want, api.OK)
				f, u := faces()[n%4], lines[(k+n)%len(lines)]
				sys = append(sys, at(f, u))
				want.Sys = append(want.Sys, at(f, carry(row{pos(1)}, rests[k], u)))
			}
		}
	}
}

// A line that does not use its dimension: what it is of the outside has one dimension less at its end, and one more within.
func TestCompOfSteadyLines(t *testing.T) {
	for _, x := range []struct{ line, end, rest api.Term }{
		{univ, univ, univ}, {v(7), v(7), v(7)}, {loop(1), loop(0), loop(2)}, {loop(21), loop(20), loop(22)}, {plam(loop(0)), plam(loop(0)), plam(loop(0))}, {plam(loop(2)), plam(loop(1)), plam(loop(3))}, {times(30, loop(23), plam), times(30, loop(23), plam), times(30, loop(23), plam)}, {loops(), loops(), loops()}, {loops(always...), loops(always...), loops(always...)},
		// A branch that never is goes from the line where something is put in it, but not from the line itself.
		{grown(of(api.MkGlue, univ), never, univ), of(api.MkGlue, univ), of(api.MkGlue, univ)},
	} {
		got, e := Comp(x.line, point, nil)
		answer(t, "Comp", got, e, composed(x.end, carry(never, x.line, point)), api.OK)
		got, e = Comp(x.line, point, system{at(row{neg(1)}, v(5)), at(never, loop(0))})
		answer(t, "Comp", got, e, composed(x.end, carry(never, x.line, point), at(row{neg(1)}, carry(row{pos(1)}, x.rest, v(5))), at(never, carry(row{pos(1)}, x.rest, loop(0)))), api.OK)
	}
}

// Nothing but the line is put anywhere, and it only where a branch is: all dimensions and variables may stand in the others, and in a line that has no branch beside it.
func TestCompLiftsTheLineAlone(t *testing.T) {
	far := pair(v(2000000000), loop(23))
	got, e := Comp(univ, far, system{at(row{pos(sample.Last)}, far)})
	answer(t, "Comp", got, e, composed(univ, carry(never, univ, far), at(row{pos(sample.Last)}, carry(row{pos(1)}, univ, far))), api.OK)
	got, e = Comp(far, far, nil)
	answer(t, "Comp", got, e, composed(pair(v(2000000000), loop(22)), carry(never, far, far)), api.OK)
}

// P15.2.

// Terms and lines of all kinds: the faces are lifted, and behind the system's branches is the one where i=0.
func TestFill(t *testing.T) {
	for branches := range 4 {
		terms, once, twice, parts := plain.terms(branches), plain.lifted(0, 1).terms(branches), plain.lifted(0, 2).terms(branches), meet.terms(branches)
		for k, x := range terms {
			m := (k + 5) % len(terms)
			var sys, want system
			for n := range 5 {
				got, e := Fill(x, terms[m], sys)
				answer(t, "Fill", got, e, composed(once[k], once[m], append(want[:n:n], at(row{neg(1)}, twice[m]))...), api.OK)
				f, u := faces()[n%4], (k+n)%len(terms)
				sys = append(sys, at(f, terms[u]))
				want = append(want, at(up(f, 1), parts[u]))
			}
		}
	}
}

func TestFillOfFarThings(t *testing.T) {
	got, e := Fill(loop(22), loop(21), system{at(row{pos(1 << 22)}, loop(21)), at(row{pos(1 << 22)}, loop(0)), at(always, times(21, loop(21), plam))})
	answer(t, "Fill", got, e, composed(loop(23), loop(22), at(row{pos(sample.Last)}, loop(22)), at(row{pos(sample.Last)}, loops(pos(3))), at(always, times(21, loops(pos(3<<21)), plam)), at(row{neg(1)}, loop(23))), api.OK)
	got, e = Fill(v(1000000000), v(1000000000), system{at(never, v(1000000000))})
	answer(t, "Fill", got, e, composed(v(1000000000), v(1000000000), at(never, v(1000000000)), at(row{neg(1)}, v(1000000000))), api.OK)
}

// P15.3.

// wheres are faces, with what they are behind a binder or where i=0, and or where i=1.
func wheres() [][3]row {
	return [][3]row{
		{never, {neg(1)}, {pos(1)}}, {always, always, always}, {{pos(1)}, {neg(1), pos(2)}, {pos(1), pos(2)}}, {{neg(1)}, {neg(1), neg(2)}, {neg(2), pos(1)}}, {{both(1, 6)}, {neg(1), both(2, 12)}, {pos(1), both(2, 12)}},
		{{neg(4), both(1, 2), pos(6)}, {neg(1), neg(8), both(2, 4), pos(12)}, {neg(8), pos(1), both(2, 4), pos(12)}}, {{pos(1 << 22)}, {neg(1), pos(sample.Last)}, {pos(1), pos(sample.Last)}},
		{sample.Pairs(63), append(row{neg(1)}, up(sample.Pairs(63), 1)...), append(row{pos(1)}, up(sample.Pairs(63), 1)...)},
	}
}

func TestRunAndBack(t *testing.T) {
	for branches := range 4 {
		lines, once, firsts, lasts := plain.terms(branches), plain.lifted(0, 1).terms(branches), meet.terms(branches), back.terms(branches)
		for k, line := range lines {
			m := (k + 5) % len(lines)
			for _, f := range wheres() {
				got, e := Run(line, f[0], lines[m])
				answer(t, "Run", got, e, carry(f[1], firsts[k], once[m]), api.OK)
				got, e = Back(line, f[0], lines[m])
				answer(t, "Back", got, e, carry(f[2], lasts[k], once[m]), api.OK)
			}
		}
	}
}

func TestRunOfFarThings(t *testing.T) {
	for _, x := range []struct{ line, first, last api.Term }{
		{loop(21), loop(22), loop(22)}, {loop(0), loops(pos(3)), loops(neg(1), pos(2))}, {loops(neg(1)), loops(neg(1), neg(2)), loops(both(1, 2))}, {times(21, loop(21), plam), times(21, loops(pos(3<<21)), plam), times(21, loops(neg(1<<21), pos(1<<22)), plam)}, {times(40, loop(23), plam), times(40, loop(23), plam), times(40, loop(23), plam)}, {v(1000000000), v(1000000000), v(1000000000)}, {grown(of(api.MkGlue, univ), never, univ), of(api.MkGlue, univ), of(api.MkGlue, univ)},
	} {
		got, e := Run(x.line, never, loop(22))
		answer(t, "Run", got, e, carry(row{neg(1)}, x.first, loop(23)), api.OK)
		got, e = Back(x.line, never, loop(22))
		answer(t, "Back", got, e, carry(row{pos(1)}, x.last, loop(23)), api.OK)
	}
}

// P15.4.

// far is how a term of some kind is under binders.
type far func(vars, dims int) api.Term

func ofKind(k, branches int) far {
	return func(vars, dims int) api.Term { return plain.lifted(vars, dims).terms(branches)[k] }
}

// fiber tells what a Fiber is to be, so many binders further in.
func fiber(t, a, f, y far, vars, dims int) api.Term {
	return of(api.Sigma, t(vars, dims), of(api.Path, a(vars+1, dims+1), y(vars+1, dims), of(api.App, f(vars+1, dims), v(0))))
}

// variableFrom tells a variable, by its number of the outside.
func variableFrom(n int) far {
	return func(vars, _ int) api.Term { return v(n + vars) }
}

func TestFiber(t *testing.T) {
	for branches := range 4 {
		kinds := len(plain.terms(branches))
		for k := range kinds {
			x, a, f, y := ofKind(k, branches), ofKind((k+3)%kinds, branches), ofKind((k+5)%kinds, branches), ofKind((k+11)%kinds, branches)
			got, e := Fiber(x(0, 0), a(0, 0), f(0, 0), y(0, 0))
			answer(t, "Fiber", got, e, fiber(x, a, f, y, 0, 0), api.OK)
		}
	}
	got, e := Fiber(v(0), v(1), v(2), v(3))
	answer(t, "Fiber", got, e, of(api.Sigma, v(0), of(api.Path, v(2), v(4), of(api.App, v(3), v(0)))), api.OK)
	got, e = Fiber(pair(v(2000000000), loop(23)), pair(v(999999999), loop(22)), pair(v(999999999), loop(23)), pair(v(999999999), loop(23)))
	answer(t, "Fiber", got, e, of(api.Sigma, pair(v(2000000000), loop(23)), of(api.Path, pair(v(1000000000), loop(23)), pair(v(1000000000), loop(23)), of(api.App, pair(v(1000000000), loop(23)), v(0)))), api.OK)
}

// contr tells what a Contr is to be.
func contr(t far) api.Term {
	return of(api.Sigma, t(0, 0), of(api.Pi, t(1, 0), of(api.Path, t(2, 1), v(1), v(0))))
}

func TestContr(t *testing.T) {
	for branches := range 4 {
		for k := range plain.terms(branches) {
			x := ofKind(k, branches)
			got, e := Contr(x(0, 0))
			answer(t, "Contr", got, e, contr(x), api.OK)
		}
	}
	got, e := Contr(v(0))
	answer(t, "Contr", got, e, of(api.Sigma, v(0), of(api.Pi, v(1), of(api.Path, v(2), v(1), v(0)))), api.OK)
	got, e = Contr(pair(v(999999998), loop(22)))
	answer(t, "Contr", got, e, of(api.Sigma, pair(v(999999998), loop(22)), of(api.Pi, pair(v(999999999), loop(22)), of(api.Path, pair(v(1000000000), loop(23)), v(1), v(0)))), api.OK)
}

func TestEquiv(t *testing.T) {
	for branches := range 4 {
		kinds := len(plain.terms(branches))
		for k := range kinds {
			x, a := ofKind(k, branches), ofKind((k+5)%kinds, branches)
			got, e := Equiv(x(0, 0), a(0, 0))
			answer(t, "Equiv", got, e, equiv(x, a), api.OK)
		}
	}
	got, e := Equiv(v(0), v(1))
	inner := func(t, a, f, y int) api.Term {
		return of(api.Sigma, v(t), of(api.Path, v(a), v(y), of(api.App, v(f), v(0))))
	}
	answer(t, "Equiv", got, e, of(api.Sigma, of(api.Pi, v(0), v(2)), of(api.Pi, v(2), of(api.Sigma, inner(2, 4, 2, 1), of(api.Pi, inner(3, 5, 3, 2), of(api.Path, inner(4, 6, 4, 3), v(1), v(0)))))), api.OK)
	// All that may just be: t comes to stand behind four variables and one dimension more, a behind five and two.
	x, a := lastOf(4, 1), lastOf(5, 2)
	got, e = Equiv(x(0, 0), a(0, 0))
	answer(t, "Equiv", got, e, equiv(x, a), api.OK)
}

// lastOf tells the last variable and dimension that can be lifted by so many.
func lastOf(vars, dims int) far {
	return func(v2, d2 int) api.Term { return pair(v(1000000000-vars+v2), loop(23-dims+d2)) }
}

// equiv tells what an Equiv is to be. The function and the point are bound: further in they are as many more.
func equiv(t, a far) api.Term {
	fibers := func(vars, dims int) api.Term { return fiber(t, a, variableFrom(-1), variableFrom(-2), vars+2, dims) }
	return of(api.Sigma, of(api.Pi, t(0, 0), a(1, 0)), of(api.Pi, a(1, 0), contr(fibers)))
}

func TestId(t *testing.T) {
	p := func(r row) api.Term {
		return with(of(api.PApp, of(api.Snd, v(0)), v(1), of(api.Fst, v(0))), r)
	}
	want := pair(lam(v(0)), lam(pair(pair(v(0), plam(v(0))), lam(plam(pair(p(row{pos(1)}), plam(p(row{pos(3)}))))))))
	for range 2 {
		got := Id()
		answer(t, "Id", got, term.Right(got, 0, 0), want, api.OK)
		if sample.Spoil([]api.Term{got}) > 0 {
			t.Error("Id: lists of one answer share memory")
		}
	}
}
