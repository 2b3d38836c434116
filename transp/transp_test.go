package transp

import (
	"fmt"
	"testing"

	"hypercube/api"
	"hypercube/glue"
	"hypercube/hit"
	"hypercube/sample"
	"hypercube/term"
)

// row is what a formula is written as, and a face.
type row = []api.Clause

// system is some branches.
type system = []api.Branch

// thing is a term of the outside; way is a line.
type (
	thing = sample.Thing
	way   = sample.Way
)

// Short names for what the tests write most.
var (
	some, someWay      = sample.Some, sample.SomeWay
	shift              = sample.Shift
	pos, neg, both     = sample.Pos, sample.Neg, sample.Both
	of, with, grown    = sample.Node, sample.With, sample.Grown
	v, loop, times     = sample.Var, sample.Loop, sample.Times
	lam, plam, fst     = sample.Lam, sample.PLam, sample.Fst
	univ, circle, base = of(api.Univ), of(api.Circle), of(api.Base)
	never, always, own = row{}, row{{}}, row{pos(1)}
)

func loops(r ...api.Clause) api.Term             { return with(of(api.Loop), r) }
func pair(a, b api.Term) api.Term                { return of(api.Pair, a, b) }
func app(f, a api.Term) api.Term                 { return of(api.App, f, a) }
func snd(p api.Term) api.Term                    { return of(api.Snd, p) }
func at(f row, kids ...api.Term) api.Branch      { return api.Branch{Face: f, Kids: kids} }
func along(f row, line, a api.Term) api.Term     { return with(of(api.Transp, line, a), f) }
func pi(a, b api.Term) api.Term                  { return of(api.Pi, a, b) }
func sigma(a, b api.Term) api.Term               { return of(api.Sigma, a, b) }
func paths(a, from, to api.Term) api.Term        { return of(api.Path, a, from, to) }
func point(r row, p, from, to api.Term) api.Term { return with(of(api.PApp, p, from, to), r) }

// having tells a term of a kind with one Kid and a system.
func having(kind int, x api.Term, l ...api.Branch) api.Term {
	t := of(kind, x)
	t.Sys = l
	return t
}

// comp tells an HComp.
func comp(t, a api.Term, l ...api.Branch) api.Term {
	x := of(api.HComp, t, a)
	x.Sys = l
	return x
}

// becomes holds Step's answer against what is wanted: a term, nothing (which is no term), or a refusal, which has none beside it.
func becomes(t *testing.T, x, want api.Term, wantE api.Errno) {
	t.Helper()
	if wantE != api.OK {
		want = api.Term{}
	}
	got, ok, e := Step(x)
	if wantOK := want.Kind != 0; e != wantE || ok != wantOK || !term.Same(got, want) {
		t.Errorf("Step(%s) = %s, %t, %d, not %s, %t, %d", short(x), short(got), ok, e, short(want), wantOK, wantE)
	}
}

// nothing holds that it tells nothing.
func nothing(t *testing.T, x api.Term) {
	t.Helper()
	becomes(t, x, api.Term{}, api.OK)
}

// swaps holds Swap's answer against what is wanted.
func swaps(t *testing.T, x, want api.Term, wantE api.Errno) {
	t.Helper()
	if wantE != api.OK {
		want = api.Term{}
	}
	if got, e := Swap(x); e != wantE || !term.Same(got, want) {
		t.Errorf("Swap(%s) = %s, %d, not %s, %d", short(x), short(got), e, short(want), wantE)
	}
}

// short tells how a term begins.
func short(t api.Term) string {
	text := fmt.Sprint(t)
	return text[:min(len(text), 300)]
}

func TestExamples(t *testing.T) {
	for _, f := range phis() {
		becomes(t, along(f, circle, base), base, api.OK)
		becomes(t, along(f, sigma(univ, univ), v(4)), pair(along(f, univ, fst(v(4))), along(f, univ, snd(v(4)))), api.OK)
	}
}

// P19.1, by hand: the dimensions 0 and 1 where one, both or none of them is there, in formulas and faces.
func TestSwap(t *testing.T) {
	for _, x := range []struct{ from, to row }{
		{never, never}, {always, always}, {own, row{pos(2)}}, {row{neg(1)}, row{neg(2)}}, {row{pos(4)}, row{pos(4)}}, {row{neg(1 << 20), pos(8)}, row{neg(1 << 20), pos(8)}}, {row{pos(3)}, row{pos(3)}}, {row{neg(3)}, row{neg(3)}},
		{row{both(1, 2)}, row{both(2, 1)}}, {row{neg(1), pos(2)}, row{neg(2), own[0]}}, {row{neg(1), pos(4)}, row{neg(2), pos(4)}}, {row{pos(1), pos(2)}, row{pos(1), pos(2)}}, {row{both(4, 2), pos(9)}, row{both(4, 1), pos(10)}}, {row{pos(5), pos(10)}, row{pos(6), pos(9)}},
	} {
		for _, y := range [][2]row{{x.from, x.to}, {x.to, x.from}} {
			swaps(t, loops(y[0]...), loops(y[1]...), api.OK)
			swaps(t, lam(pair(loops(y[0]...), v(0))), lam(pair(loops(y[1]...), v(0))), api.OK)
			swaps(t, along(y[0], loops(shift(y[0], 0, 1)...), v(7)), along(y[1], loops(shift(y[1], 0, 1)...), v(7)), api.OK)
			swaps(t, plam(plam(loops(shift(y[0], 0, 2)...))), plam(plam(loops(shift(y[1], 0, 2)...))), api.OK)
			// A branch that never is there goes.
			want := comp(univ, univ)
			if len(y[0]) > 0 {
				want = comp(univ, univ, at(y[1], loops(shift(y[1], 0, 1)...)))
			}
			swaps(t, comp(univ, univ, at(y[0], loops(shift(y[0], 0, 1)...))), want, api.OK)
		}
	}
	clash := row{both(1, 1), both(2, 6)}
	swaps(t, loops(clash...), loops(both(1, 5), both(2, 2)), api.OK)
	// What is bound stays, and what is of the outside behind it is exchanged.
	swaps(t, plam(pair(loop(0), pair(loop(1), pair(loop(2), loop(3))))), plam(pair(loop(0), pair(loop(2), pair(loop(1), loop(3))))), api.OK)
	swaps(t, paths(loop(1), loop(0), loop(1)), paths(loop(2), loop(1), loop(0)), api.OK)
	swaps(t, comp(loop(0), loop(1), at(own, pair(loop(0), pair(loop(1), loop(2))))), comp(loop(1), loop(0), at(row{pos(2)}, pair(loop(0), pair(loop(2), loop(1))))), api.OK)
}

// There are many kinds, each with binders of its own: dimensions are exchanged in all places of all of them.
func TestSwapInAllKinds(t *testing.T) {
	part := func(i, j int) func(byte) api.Term {
		return func(letter byte) api.Term {
			by := 0
			if letter == 'i' {
				by = 1
			}
			return pair(pair(loop(i+by), loop(2+by)), pair(lam(plam(loop(j+by+1))), v(5)))
		}
	}
	from := sample.InEachPlace(2, part(0, 1), row{both(1, 2), pos(4)}, row{neg(1), both(2, 4)})
	to := sample.InEachPlace(2, part(1, 0), row{both(2, 1), pos(4)}, row{neg(2), both(1, 4)})
	for n := range from {
		swaps(t, from[n], to[n], api.OK)
		swaps(t, to[n], from[n], api.OK)
	}
}

// family is a line of types that hangs on a thing, too: with a formula in its dimension's place, behind so many binders more than its own.
type family func(x thing, r row, vars, dims int) api.Term

// bound is the variable that a family binds.
func bound(vars, _ int) api.Term { return v(vars) }

// families tells some: that hang on it, or not, within binders too.
func families() []family {
	return []family{
		func(x thing, r row, _, _ int) api.Term { return x(0, 0) },
		func(x thing, r row, vars, dims int) api.Term {
			return pair(pair(x(0, 0), pair(v(4+vars), loops(r...))), pair(lam(pair(x(1, 0), v(1+vars))), plam(pair(loops(shift(r, 0, 1)...), pair(loop(4+dims), lam(x(1, 1)))))))
		},
		func(_ thing, r row, vars, dims int) api.Term { return pair(some(5)(vars, dims+1), lam(v(0))) },
		func(thing, row, int, int) api.Term { return circle },
		func(x thing, r row, vars, dims int) api.Term {
			return grown(having(api.Glue, x(0, 0)), row{pos(2 << dims)}, x(0, 0), someWay(2)(r, vars, dims))
		},
		func(x thing, r row, vars, dims int) api.Term {
			return grown(comp(x(0, 0), v(vars)), row{neg(4 << dims)}, x(0, 1))
		},
	}
}

// itself tells a family as it stands in a type.
func (f family) itself() api.Term { return f(bound, own, 1, 0) }

// lines tells lines of types: of their own dimension, of others, of none.
func lines() []way {
	return []way{
		someWay(3), func(r row, _, _ int) api.Term { return loops(r...) },
		func(_ row, vars, dims int) api.Term { return some(6)(vars, dims+1) },
		func(row, int, int) api.Term { return circle },
		func(_ row, vars, _ int) api.Term { return v(2 + vars) },
		func(r row, vars, dims int) api.Term {
			return plam(pair(loops(shift(r, 0, 1)...), some(4)(vars, dims+2)))
		},
	}
}

// phis are faces at which something stays.
func phis() []row {
	return []row{never, always, own, {neg(1)}, {neg(2), both(4, 1)}, {both(1, 6), pos(10)}}
}

// where tells the face that is so where phi is, or a dimension is at an end: so many binders further in, one of which is that dimension's.
func where(phi row, end api.Clause, dims int) row {
	return sample.Least(append(shift(phi, 0, dims), end))
}

// A line of functions, by hand.
func TestFunctions(t *testing.T) {
	for n, f := range phis() {
		for m, a := range lines() {
			for k, b := range families() {
				x := some(n + 2*m + k)
				back := func(vars, dims int) api.Term {
					return along(where(f, pos(1<<dims), dims+1), a(row{neg(1), pos(2 << dims)}, vars+1, dims+1), v(vars))
				}
				there := along(f, a(row{neg(1)}, 1, 0), v(0))
				becomes(t, along(f, pi(a(own, 0, 0), b.itself()), x(0, 0)), lam(along(f, b(back, own, 1, 0), app(x(1, 0), there))), api.OK)
			}
		}
	}
}

// A line of pairs, by hand.
func TestPairs(t *testing.T) {
	for n, f := range phis() {
		for m, a := range lines() {
			for k, b := range families() {
				x := some(n + 2*m + k)
				run := func(vars, dims int) api.Term {
					return along(where(f, neg(1<<dims), dims+1), a(row{pos(1 | 2<<dims)}, vars, dims+1), fst(x(vars, dims+1)))
				}
				first, second := along(f, a(own, 0, 0), fst(x(0, 0))), along(f, b(run, own, 0, 0), snd(x(0, 0)))
				becomes(t, along(f, sigma(a(own, 0, 0), b.itself()), x(0, 0)), pair(first, second), api.OK)
			}
		}
	}
}

// plane is a line of lines: with formulas in the places of the inner dimension, a path's, and of the outer one, behind so many binders more than its own.
type plane func(k, i row, vars, dims int) api.Term

// planes tells some: of both dimensions, of one, of none.
func planes() []plane {
	return []plane{
		func(k, i row, vars, dims int) api.Term {
			return pair(pair(loops(k...), loops(i...)), pair(some(3)(vars, dims+2), plam(pair(loops(shift(i, 0, 1)...), loops(shift(k, 0, 1)...)))))
		},
		func(k, i row, _, _ int) api.Term { return loops(k...) }, func(k, i row, _, _ int) api.Term { return loops(i...) },
		func(k, i row, vars, dims int) api.Term { return lam(some(7)(vars+1, dims+2)) },
		func(k, i row, vars, _ int) api.Term { return v(1 + vars) },
		func(k, i row, _, _ int) api.Term { return univ },
	}
}

// A line of paths, by hand.
func TestPaths(t *testing.T) {
	for n, f := range phis() {
		for m, a := range planes() {
			for l, u := range lines() {
				x, w := some(n+2*m+l), lines()[(l*2+m+1)%len(lines())]
				from := along(f, paths(a(own, row{pos(2)}, 0, 0), u(own, 0, 0), w(own, 0, 0)), x(0, 0))
				first := point(own, x(0, 1), u(never, 0, 0), w(never, 0, 0))
				rest := a(row{pos(4)}, row{pos(1), pos(2)}, 0, 1)
				want := comp(a(own, always, 0, -1), along(never, a(row{pos(2)}, own, 0, 0), first))
				if len(f) > 0 {
					want = grown(want, shift(f, 0, 1), along(own, rest, point(row{pos(2)}, x(0, 2), u(never, 0, 1), w(never, 0, 1))))
				}
				want = grown(want, row{neg(1)}, along(own, rest, u(own, 0, 1)))
				want = grown(want, own, along(own, rest, w(own, 0, 1)))
				becomes(t, from, plam(want), api.OK)
			}
		}
	}
}

// Lines of types that hang on nothing: what is carried stays, whatever it is.
func TestSteady(t *testing.T) {
	for n, f := range phis() {
		for _, x := range []api.Term{some(n)(0, 0), univ, circle, base, loop(3), app(lam(v(0)), v(3)), along(f, circle, base), comp(circle, base, at(f, base)), of(api.The, univ, univ)} {
			becomes(t, along(f, circle, x), x, api.OK)
			becomes(t, along(f, univ, x), x, api.OK)
		}
	}
}

// Lines of suspensions and of glued types have layers of their own.
func TestElsewhere(t *testing.T) {
	merid, north := with(of(api.Merid, v(2)), row{pos(4)}), of(api.North)
	for n, f := range phis() {
		for _, a := range lines() {
			line := of(api.Susp, a(own, 0, 0))
			becomes(t, along(f, line, north), north, api.OK)
			becomes(t, along(f, line, merid), with(of(api.Merid, along(f, line.Kids[0], v(2))), row{pos(4)}), api.OK)
			for _, x := range []api.Term{north, of(api.South), merid, comp(line, some(n)(0, 0)), comp(univ, north, at(f, some(n)(0, 1)), at(own, north)), some(n)(0, 0), univ} {
				same(t, hit.Carry, along(f, line, x))
			}
			for _, l := range []system{nil, {at(own, univ, v(3))}, {at(row{neg(4)}, a(own, 0, 0), v(3)), at(never, univ, loop(0))}, {at(always, v(1), a(own, 0, 0))}} {
				same(t, glue.Carry, along(f, having(api.Glue, a(own, 0, 0), l...), sample.Few(n)(0, 0)))
			}
		}
	}
	becomes(t, along(never, having(api.Glue, circle), base), having(api.MkGlue, comp(circle, comp(circle, along(never, circle, having(api.Unglue, base))))), api.OK)
}

// same holds that a term becomes what another layer tells.
func same(t *testing.T, carry func(api.Term) (api.Term, bool, api.Errno), x api.Term) {
	t.Helper()
	want, ok, e := carry(x)
	if ok != (want.Kind != 0) {
		t.Errorf("%s: %t, %d", short(x), ok, e)
	}
	becomes(t, x, want, e)
}

// What is none of these is nothing: terms of other kinds, lines of other kinds, and along a line of suspensions what is none of their constructors.
func TestNothing(t *testing.T) {
	steps := map[int]bool{api.Univ: true, api.Circle: true, api.Pi: true, api.Sigma: true, api.Path: true, api.Glue: true}
	for _, x := range sample.InEachPlace(1, func(byte) api.Term { return circle }, own, row{neg(1)}) {
		if x.Kind != api.Transp {
			nothing(t, x)
		}
		for _, f := range phis() {
			if !steps[x.Kind] {
				for _, a := range []api.Term{base, univ, v(0), lam(v(0)), pair(base, base), plam(base)} {
					nothing(t, along(f, x, a))
				}
			}
			if _, ok, e := Step(along(f, x, base)); ok != steps[x.Kind] || e != api.OK {
				t.Errorf("along the kind %d: %t, %d", x.Kind, ok, e)
			}
			nothing(t, of(api.Fst, along(f, x, base)))
			nothing(t, comp(x, along(f, circle, base)))
			nothing(t, along(f, lam(x), x))
			nothing(t, along(f, of(api.The, x, univ), x))
			nothing(t, along(f, app(lam(x), univ), x))
			nothing(t, along(f, along(f, univ, x), x))
		}
	}
	nothing(t, api.Term{Kind: api.Const, Name: "Circle"})
	nothing(t, along(always, api.Term{Kind: api.Const, Name: "Pi"}, univ))
}
