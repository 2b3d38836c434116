package glue

import (
	"fmt"
	"testing"

	"hypercube/api"
	"hypercube/sample"
	"hypercube/term"
)

// row is what a formula is written as, and a face.
type row = []api.Clause

// system is some branches.
type system = []api.Branch

// thing is a term of the outside; way is a line.
type (
	thing = sample.Thing
	way   = sample.Way
)

// Short names for what the tests write most.
var (
	some, someWay, few = sample.Some, sample.SomeWay, sample.Few
	fewWay, shift      = sample.FewWay, sample.Shift
	pos, neg, both     = sample.Pos, sample.Neg, sample.Both
	of, with, grown    = sample.Node, sample.With, sample.Grown
	v, loop, times     = sample.Var, sample.Loop, sample.Times
	lam, plam, fst     = sample.Lam, sample.PLam, sample.Fst
	univ, circle, base = of(api.Univ), of(api.Circle), of(api.Base)
	never, always, own = row{}, row{{}}, row{pos(1)}
)

func loops(r ...api.Clause) api.Term        { return with(of(api.Loop), r) }
func pair(a, b api.Term) api.Term           { return of(api.Pair, a, b) }
func app(f, a api.Term) api.Term            { return of(api.App, f, a) }
func snd(p api.Term) api.Term               { return of(api.Snd, p) }
func at(f row, kids ...api.Term) api.Branch { return api.Branch{Face: f, Kids: kids} }

// having tells a term of a kind with one Kid and a system.
func having(kind int, x api.Term, l ...api.Branch) api.Term {
	t := of(kind, x)
	t.Sys = l
	return t
}

func glued(a api.Term, l ...api.Branch) api.Term     { return having(api.Glue, a, l...) }
func madeGlued(a api.Term, l ...api.Branch) api.Term { return having(api.MkGlue, a, l...) }
func unglueOf(b api.Term, l ...api.Branch) api.Term  { return having(api.Unglue, b, l...) }
func along(f row, line, a api.Term) api.Term         { return with(of(api.Transp, line, a), f) }
func ownPoint(path, from, to api.Term) api.Term      { return with(of(api.PApp, path, from, to), own) }
func fiberOf(t, line, y, f api.Term) api.Term {
	return of(api.Sigma, t, of(api.Path, line, y, app(f, v(0))))
}
func carriedTo(end, line, a api.Term) api.Term { return comp(end, along(never, line, a)) }
func restOf(line, a api.Term) api.Term         { return along(own, line, a) }

// comp tells an HComp.
func comp(t, a api.Term, l ...api.Branch) api.Term {
	x := of(api.HComp, t, a)
	x.Sys = l
	return x
}

// call is one of the two.
type call = func(api.Term) (api.Term, bool, api.Errno)

func calls() map[string]call { return map[string]call{"Merge": Merge, "Carry": Carry} }

// becomes holds a call's answer against what is wanted: a term, nothing (which is no term), or a refusal, which has none beside it.
func becomes(t *testing.T, name string, x, want api.Term, wantE api.Errno) {
	t.Helper()
	if wantE != api.OK {
		want = api.Term{}
	}
	got, ok, e := calls()[name](x)
	if wantOK := want.Kind != 0; e != wantE || ok != wantOK || !term.Same(got, want) {
		t.Errorf("%s(%s) = %s, %t, %d, not %s, %t, %d", name, short(x), short(got), ok, e, short(want), wantOK, wantE)
	}
}

// nothing holds that both calls tell nothing.
func nothing(t *testing.T, x api.Term) {
	t.Helper()
	for name := range calls() {
		becomes(t, name, x, api.Term{}, api.OK)
	}
}

// short tells how a term begins.
func short(t api.Term) string {
	text := fmt.Sprint(t)
	return text[:min(len(text), 300)]
}

func TestExamples(t *testing.T) {
	for _, x := range []struct{ a, b api.Term }{{circle, base}, {univ, circle}, {v(2), v(0)}, {loop(1), loop(0)}} {
		becomes(t, "Merge", comp(glued(x.a), x.b), madeGlued(comp(x.a, unglueOf(x.b))), api.OK)
	}
	for _, x := range []struct{ line, end, a api.Term }{{circle, circle, base}, {v(2), v(2), v(1)}, {loop(0), loops(always...), loop(0)}, {loop(3), loop(2), loop(3)}} {
		becomes(t, "Carry", along(never, glued(x.line), x.a), madeGlued(comp(x.end, carriedTo(x.end, x.line, unglueOf(x.a)))), api.OK)
	}
}

// piece is a branch of a glued type, where a face is.
type piece struct {
	face row
	t, e thing
}

// wall is a branch of a composition.
type wall struct {
	face row
	u    way
}

// merging is a composition in a glued type.
type merging struct {
	a, b   thing
	pieces []piece
	walls  []wall
}

func (m merging) glued() api.Term {
	g := glued(m.a(0, 0))
	for _, p := range m.pieces {
		g = grown(g, p.face, p.t(0, 0), p.e(0, 0))
	}
	return g
}

// sys tells the composition's branches.
func (m merging) sys() system {
	var l system
	for _, w := range m.walls {
		l = append(l, at(w.face, w.u(own, 0, 0)))
	}
	return l
}

func (m merging) whole() api.Term { return comp(m.glued(), m.b(0, 0), m.sys()...) }

// unglue tells something unglued, behind so many dimensions.
func (m merging) unglue(b api.Term, dims int) api.Term {
	x := unglueOf(b)
	for _, p := range m.pieces {
		x = grown(x, shift(p.face, 0, dims), p.e(0, dims))
	}
	return x
}

// filler tells what fills the composition in another type, behind its line's binder.
func (m merging) filler(in thing) api.Term {
	x := comp(in(0, 1), m.b(0, 1))
	for _, w := range m.walls {
		x = grown(x, shift(w.face, 0, 1), w.u(row{pos(3)}, 0, 1))
	}
	return grown(x, row{neg(1)}, m.b(0, 2))
}

// becomes tells what it is to become.
func (m merging) becomes() api.Term {
	h := comp(m.a(0, 0), m.unglue(m.b(0, 0), 0))
	for _, w := range m.walls {
		h = grown(h, w.face, m.unglue(w.u(own, 0, 0), 1))
	}
	for _, p := range m.pieces {
		h = grown(h, p.face, app(fst(p.e(0, 1)), m.filler(p.t)))
	}
	x := madeGlued(h)
	for _, p := range m.pieces {
		x = grown(x, p.face, comp(p.t(0, 0), m.b(0, 0), m.sys()...))
	}
	return x
}

// faces are those of branches: between, never, always, of several clauses, and turned about.
func faces() []row { return []row{{pos(1)}, never, always, {neg(4), both(2, 8)}, {neg(2)}} }

// P18.1, all of it by hand: no branch, one and several, on either side, with faces of all sorts.
func TestMerge(t *testing.T) {
	for n := range 5 {
		for pieces := range 5 {
			for walls := range 5 {
				m := merging{a: some(n), b: some(n + 1)}
				for k := range pieces {
					m.pieces = append(m.pieces, piece{faces()[(n+k)%5], some(n + 2 + k), some(n + 11 + k)})
				}
				for k := range walls {
					m.walls = append(m.walls, wall{faces()[(n+2*k+1)%5], someWay(n + 6 + k)})
				}
				becomes(t, "Merge", m.whole(), m.becomes(), api.OK)
				becomes(t, "Carry", m.whole(), api.Term{}, api.OK)
			}
		}
	}
}

// bend is a face of a branch of a line, and what it is at the line's beginning, at its end, and where it is for every value of the line's own dimension (never: nowhere).
type bend struct{ line, first, last, all row }

// bends are such that hang on the line's own dimension, 0, or do not; with something left of them for every value of it, or nothing.
func bends() []bend {
	return []bend{
		{row{pos(2)}, own, own, own}, {never, never, never, never}, {always, always, always, always}, {row{pos(1)}, never, always, never}, {row{neg(1)}, always, never, never}, {row{neg(1), pos(1)}, always, always, never},
		{row{neg(3)}, row{neg(1)}, never, never}, {row{both(2, 1)}, own, never, never}, {row{pos(1), both(4, 2)}, row{both(2, 1)}, always, row{both(2, 1)}}, {row{both(2, 1), pos(4)}, row{pos(1), pos(2)}, row{pos(2)}, row{pos(2)}},
		{row{neg(5), both(2, 8), pos(9)}, row{neg(2), both(1, 4)}, row{both(1, 4), pos(4)}, row{both(1, 4)}}, {row{neg(1), pos(3), pos(4)}, always, row{pos(1), pos(2)}, row{pos(2)}}, {row{both(4, 3), both(2, 4)}[1:], row{both(1, 2)}, row{both(1, 2)}, row{both(1, 2)}},
	}
}

// span is a branch of a line of glued types.
type span struct {
	bend
	t, e way
}

// carrying is a line of glued types, and what is carried along it.
type carrying struct {
	phi   row
	base  way
	a     thing
	spans []span
}

func (c carrying) whole() api.Term {
	g := glued(c.base(own, 0, 0))
	for _, s := range c.spans {
		g = grown(g, s.line, s.t(own, 0, 0), s.e(own, 0, 0))
	}
	return along(c.phi, g, c.a(0, 0))
}

// atOne tells a line at 1.
func atOne(w way) thing { return func(vars, dims int) api.Term { return w(always, vars, dims-1) } }

// rest tells a line behind two binders more: of a line's dimension, and, inside, of one further on.
func rest(w way, vars, dims int) api.Term { return w(row{pos(1), pos(2)}, vars, dims+1) }

func (c carrying) a0(vars, dims int) api.Term {
	x := unglueOf(c.a(vars, dims))
	for _, s := range c.spans {
		if len(s.first) > 0 {
			x = grown(x, shift(s.first, 0, dims), s.e(never, vars, dims-1))
		}
	}
	return x
}

// ahead tells what is carried along a branch's line, behind a binder, so far.
func (c carrying) ahead(s span, vars, dims int) api.Term {
	where := append(row{neg(1)}, shift(c.phi, 0, dims+1)...)
	if len(c.phi) == 1 && c.phi[0] == (api.Clause{}) {
		where = always
	}
	return along(where, s.t(row{pos(3)}, vars, dims+1), c.a(vars, dims+1))
}

func (c carrying) a1(vars, dims int) api.Term {
	x := carriedTo(atOne(c.base)(vars, dims), c.base(own, vars, dims), c.a0(vars, dims))
	if len(c.phi) > 0 {
		x = grown(x, shift(c.phi, 0, dims), restOf(rest(c.base, vars, dims), c.a0(vars, dims+1)))
	}
	for _, s := range c.spans {
		if len(s.all) > 0 {
			x = grown(x, shift(s.all, 0, dims), restOf(rest(c.base, vars, dims), app(fst(s.e(own, vars, dims)), c.ahead(s, vars, dims))))
		}
	}
	return x
}

func (c carrying) c(s span, vars, dims int) api.Term {
	return app(snd(atOne(s.e)(vars, dims)), c.a1(vars, dims))
}

// p tells the path to a known point, behind a binder.
func (c carrying) p(s span, x thing, vars, dims int) api.Term {
	center, there := c.c(s, vars, dims+1), pair(x(vars, dims+1), plam(c.a1(vars, dims+2)))
	return ownPoint(app(snd(center), there), fst(center), there)
}

func (c carrying) w(s span, vars, dims int) api.Term {
	fiber := fiberOf(atOne(s.t)(vars, dims), atOne(c.base)(vars+1, dims+1), c.a1(vars+1, dims), fst(atOne(s.e)(vars+1, dims)))
	x := comp(fiber, fst(c.c(s, vars, dims)))
	if len(c.phi) > 0 {
		x = grown(x, shift(c.phi, 0, dims), c.p(s, c.a, vars, dims))
	}
	for _, u := range c.spans {
		if len(u.all) > 0 {
			carried := func(vars, dims int) api.Term {
				return along(shift(c.phi, 0, dims), u.t(own, vars, dims), c.a(vars, dims))
			}
			x = grown(x, shift(u.all, 0, dims), c.p(s, carried, vars, dims))
		}
	}
	return x
}

// becomes tells what it is to become.
func (c carrying) becomes() api.Term {
	h := comp(atOne(c.base)(0, 0), c.a1(0, 0))
	if len(c.phi) > 0 {
		h = grown(h, c.phi, c.a1(0, 1))
	}
	x := madeGlued(h)
	for _, s := range c.spans {
		if len(s.last) > 0 {
			w := c.w(s, 0, 1)
			x.Kids[0] = grown(x.Kids[0], s.last, ownPoint(snd(w), c.a1(0, 1), app(fst(atOne(s.e)(0, 1)), fst(w))))
			x = grown(x, s.last, fst(c.w(s, 0, 0)))
		}
	}
	return x
}

// phis are faces where nothing is carried.
func phis() []row { return []row{never, always, {pos(1)}, {neg(2), both(4, 1)}} }

// carries holds what a line of glued types is to become.
func (c carrying) carries(t *testing.T) {
	t.Helper()
	becomes(t, "Carry", c.whole(), c.becomes(), api.OK)
	becomes(t, "Merge", c.whole(), api.Term{}, api.OK)
}

// P18.2, all of it by hand: no branch and one, whatever its face is.
func TestCarry(t *testing.T) {
	for n, phi := range phis() {
		carrying{phi, someWay(n), some(n + 1), nil}.carries(t)
		for k, b := range bends() {
			carrying{phi, someWay(n), some(k + 1), []span{{b, someWay(k + 2), someWay(k + 3)}}}.carries(t)
		}
	}
}

// bareWay tells lines of one node: of their own dimension, or of a variable.
func bareWay(n int) way {
	if n%2 == 0 {
		return func(r row, _, _ int) api.Term { return loops(r...) }
	}
	return func(_ row, vars, _ int) api.Term { return v(n + vars) }
}

// Several branches, with faces of all sorts beside one another.
func TestCarryAlongSeveral(t *testing.T) {
	l := bends()
	for n, phi := range phis() {
		for k := range l {
			for m := range l {
				two := []span{{l[k], fewWay(k + 2), fewWay(m + 9)}, {l[m], fewWay(m), fewWay(k + 17)}}
				carrying{phi, fewWay(n), few(k + 1), two}.carries(t)
			}
			three := []span{{l[k], fewWay(k + 2), bareWay(9)}, {l[(k+5)%len(l)], bareWay(k), fewWay(17)}, {l[(k*3+1)%len(l)], bareWay(k + 4), bareWay(3)}}
			carrying{phi, bareWay(n), few(k + 1), three}.carries(t)
		}
	}
}

// steadyWays are lines that hang on their own dimension in other ways, or not at all.
func steadyWays() []way {
	return []way{
		func(row, int, int) api.Term { return circle }, func(r row, _, _ int) api.Term { return loops(r...) }, func(_ row, vars, dims int) api.Term { return few(6)(vars, dims+1) }, func(_ row, vars, _ int) api.Term { return v(4 + vars) },
		func(r row, vars, dims int) api.Term {
			return plam(pair(loops(shift(r, 0, 1)...), few(4)(vars, dims+2)))
		},
		func(r row, vars, dims int) api.Term {
			return lam(pair(loops(r...), pair(v(0), few(1)(vars+1, dims+1))))
		},
	}
}

// Parts of the line that hang on its own dimension, and such that do not.
func TestCarryOfSteadyParts(t *testing.T) {
	l := steadyWays()
	a := thing(func(vars, dims int) api.Term { return few(2)(vars, dims) })
	for n := range l {
		for m := range l {
			for _, b := range bends() {
				carrying{phis()[(n+m)%4], l[n], a, []span{{b, l[m], l[(n*2+m)%len(l)]}}}.carries(t)
			}
		}
	}
}

// What is carried, and what is composed, may be anything: whether parts step does not count.
func TestPartsOfAllKinds(t *testing.T) {
	step, inner := app(lam(v(0)), v(3)), comp(circle, base, at(always, base))
	for _, x := range []api.Term{univ, step, inner, glued(circle), glued(circle, at(always, univ, univ)), madeGlued(base), unglueOf(step)} {
		becomes(t, "Merge", comp(glued(x), x), madeGlued(comp(x, unglueOf(x))), api.OK)
		becomes(t, "Merge", comp(glued(x), x, at(always, x)), madeGlued(comp(x, unglueOf(x), at(always, unglueOf(x)))), api.OK)
		becomes(t, "Merge", comp(glued(circle, at(never, univ, x)), x), madeGlued(comp(circle, unglueOf(x, at(never, x)), at(never, app(fst(x), comp(univ, x, at(row{neg(1)}, x))))), at(never, comp(univ, x))), api.OK)
		becomes(t, "Carry", along(never, glued(x), x), madeGlued(comp(x, carriedTo(x, x, unglueOf(x)))), api.OK)
		a1 := comp(x, along(never, x, unglueOf(x)), at(always, restOf(x, unglueOf(x))))
		becomes(t, "Carry", along(always, glued(x), x), madeGlued(comp(x, a1, at(always, a1))), api.OK)
	}
}

// What just misses a row is nothing.
func TestNothing(t *testing.T) {
	g, step := glued(circle, at(always, univ, univ)), app(lam(v(0)), v(3))
	for _, x := range []api.Term{univ, circle, step, v(0), g, madeGlued(g), unglueOf(g), of(api.The, g, univ), of(api.Susp, g), of(api.Sigma, g, g), plam(g), of(api.Pair, g, g), comp(circle, g), of(api.Const)} {
		if x.Kind == api.Const {
			x.Name = "Glue"
		}
		nothing(t, x)
		nothing(t, comp(comp(x, univ), g, at(always, g)))
		nothing(t, along(never, plam(x), g))
		nothing(t, fst(comp(x, base)))
		nothing(t, of(api.The, along(always, g, x), g))
		if x.Kind != api.Glue {
			nothing(t, comp(x, g, at(always, g)))
			nothing(t, along(never, x, g))
			nothing(t, along(always, x, g))
		}
	}
}
