package hcomp

import (
	"fmt"
	"testing"

	"hypercube/api"
	"hypercube/glue"
	"hypercube/sample"
	"hypercube/term"
)

// row is what a formula is written as, and a face.
type row = []api.Clause

// system is some branches.
type system = []api.Branch

// thing is a term of the outside; way is a line.
type (
	thing = sample.Thing
	way   = sample.Way
)

// Short names for what the tests write most.
var (
	some, someWay      = sample.Some, sample.SomeWay
	shift              = sample.Shift
	pos, neg, both     = sample.Pos, sample.Neg, sample.Both
	of, with, grown    = sample.Node, sample.With, sample.Grown
	v, loop, times     = sample.Var, sample.Loop, sample.Times
	lam, plam, fst     = sample.Lam, sample.PLam, sample.Fst
	univ, circle, base = of(api.Univ), of(api.Circle), of(api.Base)
	never, always, own = row{}, row{{}}, row{pos(1)}
)

func loops(r ...api.Clause) api.Term             { return with(of(api.Loop), r) }
func pair(a, b api.Term) api.Term                { return of(api.Pair, a, b) }
func app(f, a api.Term) api.Term                 { return of(api.App, f, a) }
func snd(p api.Term) api.Term                    { return of(api.Snd, p) }
func at(f row, kids ...api.Term) api.Branch      { return api.Branch{Face: f, Kids: kids} }
func along(f row, line, a api.Term) api.Term     { return with(of(api.Transp, line, a), f) }
func pi(a, b api.Term) api.Term                  { return of(api.Pi, a, b) }
func sigma(a, b api.Term) api.Term               { return of(api.Sigma, a, b) }
func paths(a, from, to api.Term) api.Term        { return of(api.Path, a, from, to) }
func point(r row, p, from, to api.Term) api.Term { return with(of(api.PApp, p, from, to), r) }

// having tells a term of a kind with one Kid and a system.
func having(kind int, x api.Term, l ...api.Branch) api.Term {
	t := of(kind, x)
	t.Sys = l
	return t
}

// comp tells an HComp.
func comp(t, a api.Term, l ...api.Branch) api.Term {
	x := of(api.HComp, t, a)
	x.Sys = l
	return x
}

// becomes holds Step's answer against what is wanted: a term, nothing (which is no term), or a refusal, which has none beside it.
func becomes(t *testing.T, x, want api.Term, wantE api.Errno) {
	t.Helper()
	if wantE != api.OK {
		want = api.Term{}
	}
	got, ok, e := Step(x)
	if wantOK := want.Kind != 0; e != wantE || ok != wantOK || !term.Same(got, want) {
		t.Errorf("Step(%s) = %s, %t, %d, not %s, %t, %d", short(x), short(got), ok, e, short(want), wantOK, wantE)
	}
}

// nothing holds that it tells nothing.
func nothing(t *testing.T, x api.Term) {
	t.Helper()
	becomes(t, x, api.Term{}, api.OK)
}

// short tells how a term begins.
func short(t api.Term) string {
	text := fmt.Sprint(t)
	return text[:min(len(text), 300)]
}

func TestExamples(t *testing.T) {
	becomes(t, comp(pi(circle, circle), v(0)), lam(comp(circle, app(v(1), v(0)))), api.OK)
	becomes(t, comp(univ, circle), having(api.Glue, circle), api.OK)
	nothing(t, comp(circle, base))
}

// wall is a branch of a composition.
type wall struct {
	face row
	u    way
}

// walls tells systems: of no branch, of one, of several; with faces that are always, never, and neither; of lines that hang on their own dimension, and of such that do not.
func walls() [][]wall {
	steady := func(_ row, vars, dims int) api.Term { return some(6)(vars, dims+1) }
	bare := func(r row, _, _ int) api.Term { return loops(r...) }
	return [][]wall{
		nil,
		{{own, someWay(3)}}, {{always, bare}}, {{never, someWay(2)}}, {{row{neg(1)}, steady}}, {{row{neg(2), both(4, 1)}, bare}},
		{{row{both(1, 6), pos(10)}, someWay(1)}, {never, steady}, {own, bare}, {always, someWay(5)}},
		{{own, steady}, {own, someWay(2)}}, {{never, bare}, {never, steady}},
		{{always, func(row, int, int) api.Term { return circle }}, {row{neg(4)}, func(_ row, vars, _ int) api.Term { return v(vars) }}},
	}
}

// systemOf tells a system of what becomes of each wall.
func systemOf(l []wall, becomes func(wall) api.Branch) system {
	var out system
	for _, w := range l {
		out = append(out, becomes(w))
	}
	return out
}

// standing tells walls as they are handed in.
func standing(l []wall) system {
	return systemOf(l, func(w wall) api.Branch { return at(w.face, w.u(own, 0, 0)) })
}

// bases are what is composed.
func bases() []thing {
	return []thing{some(4), func(vars, _ int) api.Term { return v(vars) }, func(int, int) api.Term { return base }, func(_, dims int) api.Term { return loop(dims + 1) }, func(vars, dims int) api.Term {
		return grown(comp(v(3+vars), lam(pair(v(0), v(1+vars)))), row{pos(2 << dims)}, plam(pair(loop(0), pair(loop(1), loop(2+dims)))))
	}}
}

// Compositions of functions, by hand.
func TestFunctions(t *testing.T) {
	for _, l := range walls() {
		for n, x := range bases() {
			for _, b := range []api.Term{v(0), v(3), circle, some(n)(1, 0), pair(lam(v(1)), some(2)(1, 0))} {
				sys := systemOf(l, func(w wall) api.Branch { return at(w.face, app(w.u(own, 1, 0), v(0))) })
				for _, a := range []api.Term{circle, some(9)(0, 0)} {
					becomes(t, comp(pi(a, b), x(0, 0), standing(l)...), lam(comp(b, app(x(1, 0), v(0)), sys...)), api.OK)
				}
			}
		}
	}
}

// family is a type that hangs on a thing, behind so many binders more.
type family func(x thing, vars, dims int) api.Term

// bound is the variable that a family binds.
func bound(vars, _ int) api.Term { return v(vars) }

// families tells some: that hang on it, or not, within binders too.
func families() []family {
	return []family{
		func(x thing, _, _ int) api.Term { return x(0, 0) },
		func(x thing, vars, dims int) api.Term {
			return pair(pair(x(0, 0), v(4+vars)), pair(lam(pair(x(1, 0), v(1+vars))), plam(pair(loop(4+dims), lam(x(1, 1))))))
		},
		func(_ thing, vars, dims int) api.Term { return pair(some(5)(vars, dims), lam(v(0))) },
		func(thing, int, int) api.Term { return circle },
		func(x thing, vars, dims int) api.Term {
			return grown(having(api.Glue, x(0, 0)), row{pos(2 << dims)}, x(0, 0), some(2)(vars, dims))
		},
		func(x thing, vars, dims int) api.Term {
			return grown(comp(x(0, 0), v(vars)), row{neg(4 << dims)}, x(0, 1))
		},
	}
}

// itself tells a family as it stands in a type.
func (f family) itself() api.Term { return f(bound, 1, 0) }

// filler tells what fills the composition of a pair's first parts, at a formula, behind so many dimensions more. Where a formula was put, there are no branches any more that never are.
func filler(a, x thing, l []wall, r row, behind int) thing {
	return func(vars, dims int) api.Term {
		all, here := behind+dims, shift(r, 0, dims)
		f := comp(a(vars, all), fst(x(vars, all)))
		for _, w := range l {
			if len(w.face) > 0 || behind == 1 {
				met := sample.Least(sample.Met(shift(here, 0, 1), pos(1)))
				f.Sys = append(f.Sys, at(shift(w.face, 0, all), fst(w.u(met, vars, all))))
			}
		}
		if behind > 0 {
			var none api.Clause
			for _, c := range here {
				none.Neg |= c.Pos
			}
			f.Sys = append(f.Sys, at(row{none}, fst(x(vars, all+1))))
		}
		return f
	}
}

// Compositions of pairs, by hand.
func TestPairs(t *testing.T) {
	for _, l := range walls() {
		for n, x := range bases() {
			for k, b := range families() {
				a := bases()[(n+k)%len(bases())]
				first := comp(a(0, 0), fst(x(0, 0)), systemOf(l, func(w wall) api.Branch { return at(w.face, fst(w.u(own, 0, 0))) })...)
				end, line := b(filler(a, x, l, always, 0), 0, 0), b(filler(a, x, l, own, 1), 0, 1)
				rest := b(filler(a, x, l, row{pos(1), pos(2)}, 2), 0, 2)
				second := comp(end, along(never, line, snd(x(0, 0))), systemOf(l, func(w wall) api.Branch { return at(w.face, along(own, rest, snd(w.u(own, 0, 0)))) })...)
				becomes(t, comp(sigma(a(0, 0), b.itself()), x(0, 0), standing(l)...), pair(first, second), api.OK)
			}
		}
	}
}

// Compositions of paths, by hand: in types that hang on the path's dimension, and such that do not, between ends that hang on others, and such that do not.
func TestPaths(t *testing.T) {
	for _, l := range walls() {
		for n, x := range bases() {
			for k, a := range []api.Term{loop(0), circle, some(3)(0, 1), someWay(7)(own, 0, 0), v(2)} {
				from, to := bases()[(n+k)%len(bases())], bases()[(2*n+k+1)%len(bases())]
				sys := systemOf(l, func(w wall) api.Branch {
					return at(shift(w.face, 0, 1), point(row{pos(2)}, w.u(own, 0, 1), from(0, 2), to(0, 2)))
				})
				sys = append(sys, at(row{neg(1)}, from(0, 2)), at(own, to(0, 2)))
				want := comp(a, point(own, x(0, 1), from(0, 1), to(0, 1)), sys...)
				becomes(t, comp(paths(a, from(0, 0), to(0, 0)), x(0, 0), standing(l)...), plam(want), api.OK)
			}
		}
	}
}

// equivalences tells the type of equivalences of a line with something that stays.
func equivalences(u way, a thing) api.Term {
	fiber := func(vars, dims int) api.Term {
		return sigma(u(row{pos(1 << dims)}, vars, dims), paths(a(vars+1, dims+2), v(vars-1), app(v(vars), v(0))))
	}
	alone := sigma(fiber(2, 0), pi(fiber(3, 0), paths(fiber(4, 1), v(1), v(0))))
	return sigma(pi(u(own, 0, 0), a(1, 1)), pi(a(1, 1), alone))
}

// identity tells the equivalence of a type with itself.
func identity() api.Term {
	p := func(r row) api.Term { return point(r, snd(v(0)), v(1), fst(v(0))) }
	center := pair(v(0), plam(v(0)))
	return pair(lam(v(0)), lam(pair(center, lam(plam(pair(p(own), plam(p(row{pos(3)}))))))))
}

// Compositions of types, by hand.
func TestTypes(t *testing.T) {
	for _, l := range walls() {
		for _, x := range bases() {
			sys := systemOf(l, func(w wall) api.Branch {
				return at(w.face, w.u(always, 0, -1), along(never, equivalences(w.u, x), identity()))
			})
			becomes(t, comp(univ, x(0, 0), standing(l)...), having(api.Glue, x(0, 0), sys...), api.OK)
		}
	}
	// What stands at a line's end is without the branches that never are; in the line they stay.
	line := func(_ row, vars, _ int) api.Term { return grown(of(api.MkGlue, univ), never, v(2+vars)) }
	want := along(never, equivalences(line, bound), identity())
	becomes(t, comp(univ, v(0), at(own, line(own, 0, 0))), having(api.Glue, v(0), at(own, of(api.MkGlue, univ), want)), api.OK)
}

// Compositions in glued types have a layer of their own.
func TestGlued(t *testing.T) {
	for _, l := range walls() {
		for n, x := range bases() {
			for _, pieces := range []system{nil, {at(own, univ, v(3))}, {at(row{neg(4)}, some(n)(0, 0), v(3)), at(never, univ, loop(0))}, {at(always, v(1), some(2)(0, 0))}} {
				y := comp(having(api.Glue, some(n)(0, 0), pieces...), x(0, 0), standing(l)...)
				want, ok, e := glue.Merge(y)
				if !ok || e != api.OK {
					t.Errorf("Merge(%s): %t, %d", short(y), ok, e)
				}
				becomes(t, y, want, api.OK)
			}
		}
	}
	becomes(t, comp(having(api.Glue, circle), base), having(api.MkGlue, comp(circle, having(api.Unglue, base))), api.OK)
}

// Branches that are total are nothing of their own here: what the type tells is done.
func TestTotalBranches(t *testing.T) {
	total := at(always, v(2))
	becomes(t, comp(pi(circle, circle), v(0), total), lam(comp(circle, app(v(1), v(0)), at(always, app(v(3), v(0))))), api.OK)
	becomes(t, comp(paths(circle, base, loop(0)), v(0), total), plam(comp(circle, point(own, v(0), base, loop(1)), at(always, point(row{pos(2)}, v(2), base, loop(2))), at(row{neg(1)}, base), at(own, loop(2)))), api.OK)
	got, ok, e := Step(comp(univ, circle, total))
	if !ok || e != api.OK || got.Kind != api.Glue || len(got.Sys) != 1 || !term.Same(got.Sys[0].Kids[0], v(2)) {
		t.Errorf("of types: %s, %t, %d", short(got), ok, e)
	}
	for _, x := range []api.Term{circle, v(0), of(api.Susp, univ)} {
		nothing(t, comp(x, base, total))
		nothing(t, comp(x, base, at(own, base), total))
	}
}

// What is none of these is nothing: terms of other kinds, and compositions in types of other kinds.
func TestNothing(t *testing.T) {
	steps := map[int]bool{api.Univ: true, api.Pi: true, api.Sigma: true, api.Path: true, api.Glue: true}
	for _, x := range sample.InEachPlace(1, func(byte) api.Term { return circle }, own, row{neg(1)}) {
		if x.Kind != api.HComp {
			nothing(t, x)
		}
		for _, l := range walls() {
			sys := standing(l)
			if _, ok, e := Step(comp(x, base, sys...)); ok != steps[x.Kind] || e != api.OK {
				t.Errorf("in the kind %d: %t, %d", x.Kind, ok, e)
			}
			nothing(t, comp(lam(x), base, sys...))
			nothing(t, comp(of(api.The, x, univ), base, sys...))
			nothing(t, comp(app(lam(x), univ), base, sys...))
			nothing(t, comp(comp(univ, x, sys...), base, sys...))
			nothing(t, comp(of(api.Susp, x), x, sys...))
			nothing(t, fst(comp(x, base, sys...)))
			nothing(t, along(own, comp(x, base, sys...), base))
			for _, y := range []int{api.Glue, api.MkGlue, api.Unglue} {
				nothing(t, having(y, comp(x, base, sys...)))
			}
		}
	}
	nothing(t, comp(api.Term{Kind: api.Const, Name: "Univ"}, univ))
	nothing(t, comp(along(always, univ, pi(univ, univ)), univ))
}
