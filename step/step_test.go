package step

import (
	"fmt"
	"math"
	"slices"
	"testing"

	"hypercube/api"
	"hypercube/hcomp"
	"hypercube/hit"
	"hypercube/sample"
	"hypercube/term"
	"hypercube/transp"
)

// row is what a formula is written as, and a face.
type row = []api.Clause

// Short names for what the tests write most.
var (
	pos, neg                = sample.Pos, sample.Neg
	of, with, grown         = sample.Node, sample.With, sample.Grown
	v, loop, times          = sample.Var, sample.Loop, sample.Times
	lam, plam, fst          = sample.Lam, sample.PLam, sample.Fst
	univ, circle, base      = of(api.Univ), of(api.Circle), of(api.Base)
	north, south            = of(api.North), of(api.South)
	never, always, own, off = row{}, row{{}}, row{pos(1)}, row{neg(1)}
)

func pair(a, b api.Term) api.Term            { return of(api.Pair, a, b) }
func app(f, a api.Term) api.Term             { return of(api.App, f, a) }
func pi(a, b api.Term) api.Term              { return of(api.Pi, a, b) }
func sigma(a, b api.Term) api.Term           { return of(api.Sigma, a, b) }
func comp(t, a api.Term) api.Term            { return of(api.HComp, t, a) }
func along(f row, line, a api.Term) api.Term { return with(of(api.Transp, line, a), f) }
func name(s string) api.Term                 { return api.Term{Kind: api.Const, Name: s} }

// short tells how a term begins.
func short(t api.Term) string {
	text := fmt.Sprint(t)
	return text[:min(len(text), 300)]
}

// steps holds Step's answer against what is wanted: a term, nothing (which is no term), or a refusal, which has none beside it.
func steps(t *testing.T, defs []Def, x, want api.Term, wantE api.Errno) {
	t.Helper()
	if wantE != api.OK {
		want = api.Term{}
	}
	got, ok, e := Step(defs, x)
	if wantOK := want.Kind != 0; e != wantE || ok != wantOK || !term.Same(got, want) || !ok && got.Kids != nil {
		t.Errorf("Step(%s) = %s, %t, %d, not %s, %t, %d", short(x), short(got), ok, e, short(want), wantOK, wantE)
	}
}

// someDefs are definitions, none of which counts for a node that is no Const.
func someDefs() []Def {
	return []Def{{"two", base}, {"one", univ}, {"", circle}, {"one", base}, {"open", v(0)}, {"open", circle}, {"two", circle}}
}

func TestExamples(t *testing.T) {
	steps(t, []Def{{"one", univ}}, name("one"), univ, api.OK)
	steps(t, nil, app(lam(v(0)), base), base, api.OK)
	if got := Main(of(api.CircleEl, univ, base, loop(0), v(0))); got != 3 {
		t.Errorf("Main = %d", got)
	}
}

// stepping is a term, and what it steps to.
type stepping struct{ from, to api.Term }

// plain tells what steps by chapter 16's Step.
func plain() []stepping {
	path := func(r row, p api.Term) api.Term { return with(of(api.PApp, p, base, loop(1)), r) }
	merid := func(r row) api.Term { return with(of(api.Merid, base), r) }
	circleEl := func(x api.Term) api.Term { return of(api.CircleEl, univ, v(1), v(2), x) }
	suspEl := func(x api.Term) api.Term { return of(api.SuspEl, univ, v(1), v(2), v(3), x) }
	return []stepping{
		{app(lam(pair(v(0), v(3))), base), pair(base, v(2))}, {fst(pair(base, univ)), base}, {of(api.Snd, pair(base, univ)), univ},
		{path(nil, v(4)), base}, {path(always, v(4)), loop(1)}, {path(row{pos(4)}, plam(pair(loop(0), loop(1)))), pair(loop(2), loop(0))},
		{with(of(api.Loop), nil), base}, {with(of(api.Loop), always), base}, {merid(nil), north}, {merid(always), south},
		{circleEl(base), v(1)}, {circleEl(loop(2)), with(of(api.PApp, v(2), v(1), v(1)), row{pos(4)})},
		{suspEl(north), v(1)}, {suspEl(south), v(2)}, {suspEl(merid(own)), with(of(api.PApp, app(v(3), base), v(1), v(2)), own)},
		{of(api.The, base, circle), base}, {along(always, v(2), loop(3)), loop(3)},
		{grown(comp(v(2), base), always, loop(0)), with(of(api.Loop), always)},
		{grown(of(api.Glue, univ), always, circle, v(1)), circle}, {grown(of(api.MkGlue, base), always, loop(1)), loop(1)},
		{grown(of(api.Unglue, v(1)), always, v(2)), app(fst(v(2)), v(1))}, {of(api.Unglue, of(api.MkGlue, base)), base},
	}
}

// others tells what steps by the other chapters: 17's Elim, 19's Step, 20's Step.
func others() (elim, lines, comps []stepping) {
	h := grown(comp(circle, base), own, loop(0))
	elim = []stepping{
		{of(api.CircleEl, univ, circle, v(2), h), grown(comp(univ, along(never, univ, of(api.CircleEl, univ, circle, v(2), base))), own, along(own, univ, of(api.CircleEl, univ, circle, v(2), loop(0))))},
		{of(api.SuspEl, univ, circle, univ, v(2), comp(of(api.Susp, circle), north)), comp(univ, along(never, univ, of(api.SuspEl, univ, circle, univ, v(2), north)))},
	}
	lines = []stepping{
		{along(own, circle, loop(1)), loop(1)}, {along(off, univ, circle), circle},
		{along(own, sigma(univ, univ), v(2)), pair(along(own, univ, fst(v(2))), along(own, univ, of(api.Snd, v(2))))},
		{along(never, of(api.Susp, loop(0)), south), south}, {along(own, of(api.Susp, loop(0)), with(of(api.Merid, base), off)), with(of(api.Merid, along(own, loop(0), base)), off)},
		{along(never, of(api.Glue, circle), base), of(api.MkGlue, comp(circle, comp(circle, along(never, circle, of(api.Unglue, base)))))},
	}
	comps = []stepping{
		{grown(comp(pi(univ, v(0)), v(1)), own, v(3)), lam(grown(comp(v(0), app(v(2), v(0))), own, app(v(4), v(0))))},
		{comp(univ, circle), of(api.Glue, circle)},
		{comp(of(api.Path, circle, base, loop(0)), v(1)), plam(grown(grown(comp(circle, with(of(api.PApp, v(1), base, loop(1)), own)), off, base), own, loop(2)))},
		{comp(of(api.Glue, circle), base), of(api.MkGlue, comp(circle, of(api.Unglue, base)))},
	}
	return elim, lines, comps
}

// Terms that step by each of the four layers beneath, whatever the definitions are.
func TestOfFourLayers(t *testing.T) {
	elim, lines, comps := others()
	for _, x := range slices.Concat(plain(), elim, lines, comps) {
		steps(t, nil, x.from, x.to, api.OK)
		steps(t, someDefs(), x.from, x.to, api.OK)
	}
	for n, l := range [][]stepping{elim, lines, comps} {
		for _, x := range l {
			got, ok, e := []func(api.Term) (api.Term, bool, api.Errno){hit.Elim, transp.Step, hcomp.Step}[n](x.from)
			if !ok || e != api.OK || !term.Same(got, x.to) {
				t.Errorf("%s becomes %s, %t, %d, not %s", short(x.from), short(got), ok, e, short(x.to))
			}
		}
	}
}

// Where two of the steps could tell, the first one does.
func TestTheFirstTells(t *testing.T) {
	for n, x := range []api.Term{univ, circle, pi(univ, v(0)), sigma(univ, v(0)), of(api.Path, circle, base, loop(0)), of(api.Susp, circle), grown(of(api.Glue, univ), own, circle, v(1))} {
		for _, a := range []api.Term{north, south, with(of(api.Merid, base), own), comp(x, v(1)), v(0), univ} {
			later, there, e := transp.Step(along(always, x, a))
			if e != api.OK || there && n > 1 && term.Same(later, a) && a.Kind != api.North && a.Kind != api.South {
				t.Errorf("the second step tells %s, %t, %d", short(later), there, e)
			}
			steps(t, nil, along(always, x, a), a, api.OK)
		}
		line := pair(loop(0), loop(1))
		end := pair(with(of(api.Loop), always), loop(0))
		one := grown(grown(comp(x, v(1)), own, v(2)), always, line)
		for _, y := range []api.Term{one, grown(one, always, v(3))} {
			if _, there, e := hcomp.Step(y); e != api.OK || there != (x.Kind != api.Circle && x.Kind != api.Susp) {
				t.Errorf("the second step tells of %s %t, %d", short(y), there, e)
			}
			steps(t, nil, y, end, api.OK)
		}
	}
}

// A step is the own node's: what is total further in does not count.
func TestTheOwnNode(t *testing.T) {
	h := grown(comp(circle, base), always, loop(1))
	want := grown(comp(univ, along(never, univ, of(api.CircleEl, univ, base, base, base))), always, along(own, univ, of(api.CircleEl, univ, base, base, loop(1))))
	steps(t, nil, of(api.CircleEl, univ, base, base, h), want, api.OK)
	steps(t, someDefs(), fst(name("one")), api.Term{}, api.OK)
	steps(t, someDefs(), app(name("one"), base), api.Term{}, api.OK)
	for _, x := range plain() {
		for _, y := range []api.Term{lam(x.from), plam(x.from), pair(x.from, x.from), fst(x.from), app(x.from, x.from), pi(x.from, x.from), of(api.Susp, x.from), comp(circle, x.from), along(own, v(0), x.from), grown(comp(v(0), base), off, x.from)} {
			steps(t, someDefs(), y, api.Term{}, api.OK)
		}
	}
}

// What does not step: nothing, false, OK.
func TestNothing(t *testing.T) {
	for _, x := range []api.Term{
		v(0), v(7), univ, circle, base, north, south, lam(v(0)), plam(v(0)), pair(base, base), pi(univ, v(0)), sigma(univ, v(0)), of(api.Path, univ, base, base), of(api.Susp, circle),
		loop(0), with(of(api.Loop), row{pos(3)}), with(of(api.Merid, base), own), of(api.Glue, univ), of(api.MkGlue, base), of(api.Unglue, base), grown(of(api.Glue, univ), own, univ, base), grown(of(api.MkGlue, base), never, base), grown(of(api.Unglue, v(0)), off, base),
		app(v(0), base), app(plam(base), base), fst(v(0)), fst(lam(v(0))), of(api.Snd, base), with(of(api.PApp, v(0), base, base), own), with(of(api.PApp, lam(base), base, base), row{pos(3)}),
		of(api.CircleEl, univ, base, base, v(0)), of(api.CircleEl, univ, base, base, north), of(api.SuspEl, univ, base, base, base, base), of(api.SuspEl, univ, north, south, base, along(own, circle, base)),
		along(own, v(0), base), along(never, base, base), along(off, of(api.Susp, univ), base), comp(circle, base), comp(of(api.Susp, univ), north), grown(comp(v(0), base), own, base), comp(lam(base), base),
	} {
		steps(t, nil, x, api.Term{}, api.OK)
		steps(t, someDefs(), x, api.Term{}, api.OK)
	}
}

// Names: with a definition, with several, with none.
func TestNames(t *testing.T) {
	defs := someDefs()
	for _, x := range []struct {
		defs []Def
		name string
		want api.Term
	}{
		{defs, "one", univ}, {defs, "two", base}, {defs[1:], "two", circle}, {defs[2:], "one", base}, {defs[:2], "one", univ}, {defs[:1], "two", base},
		{defs, "three", api.Term{}}, {defs, "On", api.Term{}}, {defs, "One", api.Term{}}, {defs, "ones", api.Term{}}, {defs, "_", api.Term{}}, {defs[:1], "one", api.Term{}}, {nil, "one", api.Term{}}, {[]Def{}, "one", api.Term{}}, {[]Def{{}}, "one", api.Term{}}, {[]Def{{Body: univ}, {"1a", univ}}, "a", api.Term{}},
		{[]Def{{"a", name("a")}}, "a", name("a")}, {[]Def{{"a", name("b")}, {"b", univ}}, "a", name("b")}, {[]Def{{"a", app(lam(v(0)), base)}}, "a", app(lam(v(0)), base)},
		{[]Def{{"x0", lam(lam(pair(v(0), v(1))))}}, "x0", lam(lam(pair(v(0), v(1))))}, {[]Def{{"_", plam(plam(pair(loop(0), loop(1))))}}, "_", plam(plam(pair(loop(0), loop(1))))},
	} {
		steps(t, x.defs, name(x.name), x.want, api.OK)
	}
}

// tall tells a term that is so deep.
func tall(depth int) api.Term { return times(depth-1, univ, fst) }

// A body counts if it is right in no variables and no dimensions; else the name does not step, whatever other definitions it has.
func TestBodies(t *testing.T) {
	shared := times(15, univ, func(x api.Term) api.Term { return pair(x, x) })
	for _, x := range []struct {
		body api.Term
		told bool
	}{
		{lam(v(0)), true}, {v(0), false}, {lam(v(1)), false}, {pi(v(0), univ), false}, {pi(univ, v(0)), true}, {v(math.MaxInt), false}, {v(-1), false},
		{plam(loop(0)), true}, {loop(0), false}, {plam(loop(1)), false}, {with(of(api.Loop), nil), true}, {with(of(api.Loop), always), true}, {along(own, univ, base), false}, {along(always, loop(0), base), true}, {grown(comp(univ, base), always, loop(0)), true}, {grown(comp(univ, base), own, base), false},
		{times(24, loop(23), plam), true}, {times(25, base, plam), false}, {times(24, loop(24), plam), false},
		{api.Term{}, false}, {of(29), false}, {of(api.Lam), false}, {name(""), false}, {name("0"), false}, {grown(base, always, base), false}, {with(base, own), false}, {with(of(api.Loop), row{pos(1), pos(3)}), false},
		{tall(200), true}, {tall(201), false}, {sample.Balanced(20000), true}, {sample.Balanced(20001), false}, {sample.Bushy(20000), true}, {sample.Bushy(20001), false}, {shared, false},
	} {
		want := x.body
		if !x.told {
			want = api.Term{}
		}
		for _, more := range [][]Def{nil, {{"a", univ}}, {{"b", univ}, {"a", x.body}, {"a", base}}} {
			steps(t, append([]Def{{"b", base}, {"a", x.body}}, more...), name("a"), want, api.OK)
		}
		// Others' bodies do not count.
		steps(t, []Def{{"b", x.body}, {"a", circle}, {"a", x.body}}, name("a"), circle, api.OK)
		steps(t, []Def{{"b", x.body}, {"a", x.body}}, name("c"), api.Term{}, api.OK)
		steps(t, []Def{{"a", x.body}}, fst(pair(base, univ)), base, api.OK)
	}
}
