package hit

import (
	"fmt"
	"testing"

	"hypercube/api"
	"hypercube/sample"
	"hypercube/term"
)

// row is what a formula is written as, and a face.
type row = []api.Clause

// system is some branches.
type system = []api.Branch

// thing is a term of the outside; way is a line.
type (
	thing = sample.Thing
	way   = sample.Way
)

// Short names for what the tests write most.
var (
	some, someWay      = sample.Some, sample.SomeWay
	shift              = sample.Shift
	pos, neg, both     = sample.Pos, sample.Neg, sample.Both
	of, with, grown    = sample.Node, sample.With, sample.Grown
	v, loop, times     = sample.Var, sample.Loop, sample.Times
	lam, plam, fst     = sample.Lam, sample.PLam, sample.Fst
	univ, circle, base = of(api.Univ), of(api.Circle), of(api.Base)
	north, south       = of(api.North), of(api.South)
	never, always      = row{}, row{{}}
)

func loops(r ...api.Clause) api.Term        { return with(of(api.Loop), r) }
func pair(a, b api.Term) api.Term           { return of(api.Pair, a, b) }
func susp(t api.Term) api.Term              { return of(api.Susp, t) }
func merid(a api.Term, r row) api.Term      { return with(of(api.Merid, a), r) }
func at(f row, kids ...api.Term) api.Branch { return api.Branch{Face: f, Kids: kids} }

// along tells the Transp of a line and what it carries, where a face is.
func along(f row, line, a api.Term) api.Term { return with(of(api.Transp, line, a), f) }

// comp tells an HComp.
func comp(t, a api.Term, l ...api.Branch) api.Term {
	x := of(api.HComp, t, a)
	x.Sys = l
	return x
}

// call is one of the two.
type call = func(api.Term) (api.Term, bool, api.Errno)

func calls() map[string]call { return map[string]call{"Elim": Elim, "Carry": Carry} }

// becomes holds a call's answer against what is wanted: a term, nothing (which is no term), or a refusal, which has none beside it.
func becomes(t *testing.T, name string, x, want api.Term, wantE api.Errno) {
	t.Helper()
	if wantE != api.OK {
		want = api.Term{}
	}
	got, ok, e := calls()[name](x)
	if wantOK := want.Kind != 0; e != wantE || ok != wantOK || !term.Same(got, want) {
		t.Errorf("%s(%s) = %s, %t, %d, not %s, %t, %d", name, short(x), short(got), ok, e, short(want), wantOK, wantE)
	}
}

// nothing holds that both calls tell nothing.
func nothing(t *testing.T, x api.Term) {
	t.Helper()
	for name := range calls() {
		becomes(t, name, x, api.Term{}, api.OK)
	}
}

// short tells how a term begins.
func short(t api.Term) string {
	text := fmt.Sprint(t)
	return text[:min(len(text), 300)]
}

func TestExamples(t *testing.T) {
	becomes(t, "Elim", of(api.CircleEl, univ, circle, v(0), comp(circle, base)), comp(univ, along(never, univ, of(api.CircleEl, univ, circle, v(0), base))), api.OK)
	becomes(t, "Carry", along(never, susp(circle), merid(base, row{pos(1)})), merid(along(never, circle, base), row{pos(1)}), api.OK)
}

// family is a type that hangs on a thing, behind so many binders more.
type family func(x thing, vars, dims int) api.Term

// bound is the variable that a family binds.
func bound(vars, _ int) api.Term { return v(vars) }

// families tells some: that hang on it, or not, within binders too.
func families() []family {
	return []family{
		func(x thing, _, _ int) api.Term { return x(0, 0) },
		func(x thing, vars, dims int) api.Term {
			return pair(pair(x(0, 0), v(4+vars)), pair(lam(pair(x(1, 0), v(1+vars))), plam(pair(loop(0), pair(loop(3+dims), x(0, 1))))))
		},
		func(_ thing, vars, dims int) api.Term { return pair(some(5)(vars, dims), lam(v(0))) },
		func(thing, int, int) api.Term { return circle },
		func(x thing, vars, dims int) api.Term {
			return grown(of(api.Glue, x(0, 0)), row{pos(1 << dims)}, x(0, 0), some(2)(vars, dims))
		},
	}
}

// stage is where a filler stands: so many binders of dimensions further in than the composition, with its own formula met with the dimension of a branch's line, and its face where its own formula is 0 (none, if that is 1). Behind something put there branches that never are have gone.
type stage struct {
	dims int
	meet row
	zero row
	put  bool
}

var (
	atEnd  = stage{0, row{pos(1)}, nil, true}
	inLine = stage{1, row{pos(3)}, row{neg(1)}, false}
	inRest = stage{2, row{pos(3), pos(5)}, row{neg(3)}, true}
)

// parts are those of a composition.
type parts struct {
	t, a  thing
	faces []row
	u     []way
}

// someParts tells a composition with branches at faces.
func someParts(n int, faces ...row) parts {
	p := parts{t: some(n), a: some(n + 1), faces: faces}
	for k := range faces {
		p.u = append(p.u, someWay(n+2+k))
	}
	return p
}

func (p parts) whole() api.Term {
	x := comp(p.t(0, 0), p.a(0, 0))
	for n, f := range p.faces {
		x = grown(x, f, p.u[n](row{pos(1)}, 0, 0))
	}
	return x
}

// filler tells its filler at a stage.
func (p parts) filler(s stage) thing {
	return func(vars, dims int) api.Term {
		all := s.dims + dims
		x := comp(p.t(vars, all), p.a(vars, all))
		for n, f := range p.faces {
			if len(f) > 0 || !s.put {
				x = grown(x, shift(f, 0, all), p.u[n](shift(s.meet, 1, dims), vars, all))
			}
		}
		if s.zero != nil {
			x = grown(x, shift(s.zero, 0, dims), p.a(vars, all+1))
		}
		return x
	}
}

// faces are those of branches: between, never, always, of several clauses, and turned about.
func faces() []row { return []row{{pos(1)}, never, always, {neg(4), both(2, 8)}, {neg(2)}} }

// eliminator tells one of each kind, of a family and of what stands behind it, so many dimensions further in.
func eliminator(kind int, f family, dims int, x api.Term) api.Term {
	y := of(kind, f(bound, 1, dims))
	for n := range map[int]int{api.CircleEl: 2, api.SuspEl: 3}[kind] {
		y.Kids = append(y.Kids, some(20+n)(0, dims))
	}
	y.Kids = append(y.Kids, x)
	return y
}

// P17.1, all of it by hand: families that hang on their variable or not, no branch and several, faces of all sorts.
func TestElim(t *testing.T) {
	for _, kind := range []int{api.CircleEl, api.SuspEl} {
		for n, f := range families() {
			for branches := range 6 {
				p := someParts(n, faces()[:branches]...)
				want := comp(f(p.filler(atEnd), 0, 0), along(never, f(p.filler(inLine), 0, 1), eliminator(kind, f, 0, p.a(0, 0))))
				for k, face := range p.faces {
					want = grown(want, face, along(row{pos(1)}, f(p.filler(inRest), 0, 2), eliminator(kind, f, 1, p.u[k](row{pos(1)}, 0, 0))))
				}
				becomes(t, "Elim", eliminator(kind, f, 0, p.whole()), want, api.OK)
				becomes(t, "Carry", eliminator(kind, f, 0, p.whole()), api.Term{}, api.OK)
			}
		}
	}
}

// What a composition is of does not count, nor whether its parts step.
func TestElimOfParts(t *testing.T) {
	step, inner := of(api.App, lam(v(0)), v(3)), comp(circle, base, at(always, base))
	el := func(x api.Term) api.Term { return of(api.CircleEl, step, step, step, x) }
	line := of(api.App, lam(v(0)), v(2))
	for _, x := range []api.Term{univ, susp(univ), step, inner} {
		becomes(t, "Elim", el(comp(x, step)), comp(line, along(never, line, el(step))), api.OK)
		becomes(t, "Elim", el(comp(x, inner)), comp(line, along(never, line, el(inner))), api.OK)
		becomes(t, "Elim", el(comp(x, univ, at(always, inner))), comp(line, along(never, line, el(univ)), at(always, along(row{pos(1)}, line, el(inner)))), api.OK)
	}
}

// lines tells lines of types: of their own dimension, of others, of none.
func lines() []way {
	return []way{
		someWay(3), func(r row, _, _ int) api.Term { return loops(r...) },
		func(_ row, vars, dims int) api.Term { return some(6)(vars, dims+1) },
		func(row, int, int) api.Term { return circle },
		func(r row, vars, dims int) api.Term {
			return plam(susp(pair(loops(shift(r, 0, 1)...), some(4)(vars, dims+2))))
		},
	}
}

// phis are faces at which something stays.
func phis() []row { return []row{never, always, {pos(1)}, {neg(2), both(4, 1)}} }

// P17.2, all of it by hand.
func TestCarry(t *testing.T) {
	own := row{pos(1)}
	for _, x := range lines() {
		line, end, further := susp(x(own, 0, 0)), susp(x(always, 0, -1)), susp(x(own, 0, 1))
		for n, phi := range phis() {
			becomes(t, "Carry", along(phi, line, north), north, api.OK)
			becomes(t, "Carry", along(phi, line, south), south, api.OK)
			for _, r := range []row{never, always, {neg(1)}, {both(1, 1), pos(2)}} {
				becomes(t, "Carry", along(phi, line, merid(some(n)(0, 0), r)), merid(along(phi, line.Kids[0], some(n)(0, 0)), r), api.OK)
			}
			for branches := range 6 {
				p := someParts(n, faces()[:branches]...)
				want := comp(end, along(phi, line, p.a(0, 0)))
				for k, f := range p.faces {
					want = grown(want, f, along(shift(phi, 0, 1), further, p.u[k](own, 0, 0)))
				}
				becomes(t, "Carry", along(phi, line, p.whole()), want, api.OK)
				becomes(t, "Elim", along(phi, line, p.whole()), api.Term{}, api.OK)
			}
		}
	}
}

// What is carried counts by its own kind alone; what it is of stays as it is, and branches of the line that never are go at its end alone.
func TestCarryOfParts(t *testing.T) {
	step, inner := of(api.App, lam(v(0)), v(3)), comp(circle, merid(base, always))
	line := susp(step)
	for _, a := range []api.Term{step, inner, north, merid(merid(north, never), always)} {
		becomes(t, "Carry", along(always, line, merid(a, never)), merid(along(always, step, a), never), api.OK)
		becomes(t, "Carry", along(never, line, comp(step, a, at(never, a))), comp(line, along(never, line, a), at(never, along(never, line, a))), api.OK)
	}
	old := susp(grown(grown(of(api.MkGlue, univ), never, loop(1)), row{neg(1)}, loop(2)))
	becomes(t, "Carry", along(never, old, comp(univ, univ, at(always, univ))), comp(susp(of(api.MkGlue, univ)), along(never, old, univ), at(always, along(never, susp(grown(grown(of(api.MkGlue, univ), never, loop(2)), row{neg(1)}, loop(3))), univ))), api.OK)
	becomes(t, "Carry", along(never, susp(susp(loop(0))), north), north, api.OK)
	becomes(t, "Carry", along(never, susp(susp(loop(0))), merid(south, row{pos(1)})), merid(along(never, susp(loop(0)), south), row{pos(1)}), api.OK)
}

// ofEach tells a term of each kind, all parts of which are the same.
func ofEach(part api.Term) []api.Term {
	return sample.InEachPlace(1, func(byte) api.Term { return part }, row{neg(1)}, row{pos(1)})
}

// Kinds that just miss a row: in each place that counts, each kind but those of the chapter.
func TestNothing(t *testing.T) {
	for _, x := range ofEach(v(3)) {
		for _, y := range append(ofEach(comp(circle, base)), ofEach(north)...) {
			if y.Kind != api.CircleEl && y.Kind != api.SuspEl && y.Kind != api.Transp {
				nothing(t, y)
			}
		}
		if x.Kind != api.HComp {
			nothing(t, of(api.CircleEl, univ, base, base, x))
			nothing(t, of(api.SuspEl, univ, base, base, base, x))
		}
		carried := x.Kind == api.HComp || x.Kind == api.North || x.Kind == api.South || x.Kind == api.Merid
		_, ok, e := Carry(along(never, susp(univ), x))
		if ok != carried || e != api.OK {
			t.Errorf("Carry of the kind %d: %t, %d", x.Kind, ok, e)
		}
		becomes(t, "Elim", along(never, susp(univ), x), api.Term{}, api.OK)
		if x.Kind != api.Susp {
			for _, a := range []api.Term{north, south, merid(univ, never), comp(circle, base)} {
				nothing(t, along(always, x, a))
				nothing(t, along(never, x, a))
			}
		}
	}
	h := comp(circle, base, at(always, base))
	for _, x := range []api.Term{
		of(api.CircleEl, h, h, h, base), of(api.SuspEl, h, h, h, h, north), of(api.CircleEl, h, h, h, of(api.The, h, circle)), of(api.SuspEl, h, h, h, h, along(always, circle, h)), of(api.CircleEl, h, h, h, of(api.CircleEl, h, h, h, h)), h, comp(h, h), of(api.App, h, h), lam(of(api.CircleEl, h, h, h, h)), fst(of(api.SuspEl, h, h, h, h, h)),
		along(never, of(api.The, susp(univ), univ), north), along(never, lam(susp(univ)), north), along(never, plam(susp(univ)), north), along(never, univ, susp(univ)), along(never, susp(univ), susp(univ)), along(never, susp(univ), of(api.The, north, susp(univ))), along(never, susp(univ), along(never, susp(univ), north)), along(always, north, susp(univ)), plam(along(never, susp(univ), north)), merid(along(never, susp(univ), north), always), susp(univ), north, south, merid(univ, always),
	} {
		nothing(t, x)
	}
}
