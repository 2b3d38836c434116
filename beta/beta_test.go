package beta

import (
	"fmt"
	"testing"

	"hypercube/api"
	"hypercube/sample"
	"hypercube/term"
)

// row is what a formula is written as, and a face.
type row = []api.Clause

// Short names for what the tests write most.
var (
	pos, neg, both      = sample.Pos, sample.Neg, sample.Both
	of, with, grown     = sample.Node, sample.With, sample.Grown
	v, loop, times      = sample.Var, sample.Loop, sample.Times
	lam, plam, fst      = sample.Lam, sample.PLam, sample.Fst
	univ, circle, base  = of(api.Univ), of(api.Circle), of(api.Base)
	north, south        = of(api.North), of(api.South)
	zero, one, i, notI  = row{}, row{{}}, row{pos(1)}, row{neg(1)}
	never, always, here = zero, one, i
)

func loops(r ...api.Clause) api.Term        { return with(of(api.Loop), r) }
func pair(a, b api.Term) api.Term           { return of(api.Pair, a, b) }
func app(f, a api.Term) api.Term            { return of(api.App, f, a) }
func snd(t api.Term) api.Term               { return of(api.Snd, t) }
func merid(a api.Term, r row) api.Term      { return with(of(api.Merid, a), r) }
func papp(p, a, b api.Term, r row) api.Term { return with(of(api.PApp, p, a, b), r) }

// carry tells the Transp of a line and what it carries, where a face is.
func carry(line, a api.Term, f row) api.Term { return with(of(api.Transp, line, a), f) }

// steps holds a step against what is wanted: a term, nothing (which is no term), or a refusal, which has none beside it.
func steps(t *testing.T, x, want api.Term, wantE api.Errno) {
	t.Helper()
	if wantE != api.OK {
		want = api.Term{}
	}
	got, ok, e := Step(x)
	if wantOK := want.Kind != 0; e != wantE || ok != wantOK || !term.Same(got, want) {
		t.Errorf("Step(%s) = %s, %t, %d, not %s, %t, %d", short(x), short(got), ok, e, short(want), wantOK, wantE)
	}
}

// short tells how a term begins.
func short(t api.Term) string {
	text := fmt.Sprint(t)
	return text[:min(len(text), 300)]
}

// step is what a term becomes: nothing, if it is no term.
type step struct{ from, to api.Term }

func hold(t *testing.T, l []step) {
	t.Helper()
	for _, x := range l {
		steps(t, x.from, x.to, api.OK)
	}
}

func TestExamples(t *testing.T) {
	hold(t, []step{{app(lam(v(0)), univ), univ}, {papp(plam(loop(0)), base, base, row{neg(2)}), loops(neg(2))}, {univ, api.Term{}}})
}

// P16.1, row by row. Wherever a part may stand, one that steps itself stands there: it stays as it is.
func TestFunctions(t *testing.T) {
	redex := app(lam(v(0)), v(3))
	hold(t, []step{
		{app(lam(v(1)), univ), v(0)}, {app(lam(v(7)), univ), v(6)}, {app(lam(univ), redex), univ}, {app(lam(v(0)), redex), redex}, {app(lam(redex), univ), app(lam(v(0)), v(2))},
		{app(lam(pair(v(0), v(0))), v(4)), pair(v(4), v(4))}, {app(lam(app(v(0), v(1))), lam(v(0))), app(lam(v(0)), v(0))},
		{app(lam(lam(pair(v(0), pair(v(1), v(2))))), pair(v(0), loop(3))), lam(pair(v(0), pair(pair(v(1), loop(3)), v(1))))},
		{app(lam(plam(papp(v(0), loop(0), loop(1), i))), pair(loop(0), plam(pair(loop(0), loop(1))))), plam(papp(pair(loop(1), plam(pair(loop(0), loop(2)))), loop(0), loop(1), i))},
		{app(lam(of(api.Pi, v(0), pair(v(0), v(1)))), v(5)), of(api.Pi, v(5), pair(v(0), v(6)))},
		{app(lam(grown(of(api.HComp, v(0), v(1)), row{neg(2)}, pair(v(0), loop(1)))), loop(1)), grown(of(api.HComp, loop(1), v(0)), row{neg(2)}, pair(loop(2), loop(1)))},
		{app(lam(grown(of(api.Glue, v(0)), never, v(0), v(1))), circle), grown(of(api.Glue, circle), never, circle, v(0))},
	})
}

func TestPairs(t *testing.T) {
	a, b := lam(app(v(0), v(1))), grown(of(api.Glue, loop(5)), row{neg(1)}, app(lam(v(0)), v(2)), v(9))
	hold(t, []step{{fst(pair(a, b)), a}, {snd(pair(a, b)), b}, {fst(pair(b, a)), b}, {snd(pair(b, a)), a}, {fst(pair(fst(pair(a, b)), univ)), fst(pair(a, b))}, {snd(pair(univ, snd(pair(a, b)))), snd(pair(a, b))}, {fst(pair(v(0), v(0))), v(0)}})
}

func TestPaths(t *testing.T) {
	a, b := pair(v(2), loop(0)), fst(pair(v(3), v(1)))
	two := plam(pair(pair(v(0), loop(0)), pair(loop(1), plam(loops(neg(2), pos(1))))))
	at := func(c row, i, up row) api.Term {
		return pair(pair(v(0), loops(c...)), pair(loops(i...), plam(loops(up...))))
	}
	hold(t, []step{
		{papp(v(0), a, b, zero), a}, {papp(v(0), a, b, one), b}, {papp(two, a, b, zero), a}, {papp(two, a, b, one), b}, {papp(plam(univ), b, a, nil), b}, {papp(univ, univ, a, row{{}}), a},
		{papp(two, a, b, i), at(i, i, row{neg(2), pos(1)})}, {papp(two, a, b, notI), at(notI, i, row{pos(1), pos(2)})}, {papp(two, a, b, row{pos(2)}), at(row{pos(2)}, i, row{neg(4), pos(1)})}, {papp(two, a, b, row{both(1, 1)}), at(row{both(1, 1)}, i, row{neg(2), pos(1), pos(2)})},
		{papp(two, a, b, row{neg(4), pos(8)}), at(row{neg(4), pos(8)}, i, row{pos(1), both(8, 16)})},
		{papp(plam(grown(of(api.MkGlue, loop(1)), row{pos(1)}, v(0))), a, b, notI), grown(of(api.MkGlue, loop(0)), notI, v(0))},
		{papp(plam(grown(grown(of(api.HComp, univ, loop(0)), row{both(1, 2)}, pair(loop(0), loop(1))), row{neg(2)}, loop(2))), a, b, row{both(1, 1)}), grown(of(api.HComp, univ, loops(both(1, 1))), notI, loop(1))},
		{papp(plam(plam(loop(0))), a, b, row{pos(4)}), plam(loop(0))}, {papp(plam(carry(loop(0), v(1), row{pos(1)})), a, b, i), carry(loop(0), v(1), i)}, {papp(plam(papp(plam(loop(0)), univ, univ, i)), a, b, row{neg(8)}), papp(plam(loop(0)), univ, univ, row{neg(8)})},
	})
}

func TestConstructorsOfPaths(t *testing.T) {
	hold(t, []step{{loops(), base}, {loops(one...), base}, {merid(v(0), zero), north}, {merid(v(0), one), south}, {merid(merid(univ, one), nil), north}, {merid(merid(univ, nil), one), south}, {with(of(api.Loop), nil), base}})
	for _, r := range []row{i, notI, {both(1, 1)}, {neg(1), pos(1)}, {neg(2), pos(4)}, {pos(sample.Last)}, sample.Pairs(64)} {
		hold(t, []step{{loops(r...), api.Term{}}, {merid(loops(), r), api.Term{}}, {papp(v(0), loops(), loops(), r), api.Term{}}, {papp(lam(plam(univ)), univ, univ, r), api.Term{}}})
	}
}

func TestEliminators(t *testing.T) {
	p, b, l, n, s, m := pair(v(0), v(5)), pair(v(1), loop(1)), plam(pair(v(2), loop(0))), app(lam(v(0)), v(7)), loop(4), lam(v(1))
	circles := func(x api.Term) api.Term { return of(api.CircleEl, p, b, l, x) }
	susps := func(x api.Term) api.Term { return of(api.SuspEl, p, n, s, m, x) }
	hold(t, []step{{circles(base), b}, {susps(north), n}, {susps(south), s}})
	for _, r := range []row{zero, one, nil, i, notI, {neg(1), pos(1)}, {both(6, 8)}, {pos(sample.Last)}} {
		hold(t, []step{
			{circles(loops(r...)), papp(l, b, b, r)}, {susps(merid(v(3), r)), papp(app(m, v(3)), n, s, r)}, {susps(merid(lam(v(1)), r)), papp(app(m, lam(v(1))), n, s, r)},
			{susps(loops(r...)), api.Term{}}, {circles(merid(v(3), r)), api.Term{}},
		})
	}
	for _, x := range []api.Term{v(0), fst(pair(base, north)), app(lam(v(0)), base), of(api.The, base, circle), grown(of(api.HComp, circle, base), always, base), of(api.CircleEl, p, b, l, base), susps(north), circle, of(api.Susp, base), lam(base)} {
		hold(t, []step{{circles(x), api.Term{}}, {susps(x), api.Term{}}})
	}
	hold(t, []step{
		{circles(north), api.Term{}}, {circles(south), api.Term{}}, {susps(base), api.Term{}},
		{of(api.CircleEl, base, base, base, univ), api.Term{}}, {of(api.CircleEl, loop(0), loop(0), loop(0), univ), api.Term{}}, {of(api.SuspEl, north, north, north, north, univ), api.Term{}}, {of(api.SuspEl, south, south, south, south, univ), api.Term{}}, {of(api.SuspEl, north, south, north, south, merid(univ, i)), papp(app(south, univ), south, north, i)},
	})
}

func TestTypesAndLines(t *testing.T) {
	a, line := app(lam(v(0)), loop(2)), pair(loop(0), loop(3))
	hold(t, []step{{of(api.The, a, univ), a}, {of(api.The, univ, a), univ}, {of(api.The, of(api.The, a, circle), univ), of(api.The, a, circle)}, {carry(line, a, always), a}, {carry(a, carry(line, a, always), always), carry(line, a, always)}})
	for _, f := range []row{never, nil, here, {neg(1), pos(1)}, {both(1, 2)}, sample.Pairs(64)} {
		hold(t, []step{{carry(line, a, f), api.Term{}}, {carry(univ, univ, f), api.Term{}}})
	}
}

// sys tells a term with branches at faces, the Kids of which are told by how many come ahead.
func sys(t api.Term, kids func(n int) []api.Term, faces ...row) api.Term {
	for n, f := range faces {
		t = grown(t, f, kids(n)...)
	}
	return t
}

// few tells some Kids of which each is another, with the dimension 0, and those that they are at 1.
func few(kids int) (at, atOne func(n int) []api.Term) {
	numbered := func(r row) func(n int) []api.Term {
		return func(n int) []api.Term {
			var out []api.Term
			for k := range kids {
				out = append(out, pair(loops(r...), v(2*n+k)))
			}
			return out
		}
	}
	return numbered(i), numbered(one)
}

func TestTotalBranches(t *testing.T) {
	alone, end := few(1)
	two, _ := few(2)
	b := app(lam(v(3)), loop(0))
	for _, x := range []struct {
		faces []row
		n     int
	}{
		{[]row{always}, 0}, {[]row{always, always}, 0}, {[]row{never, always}, 1}, {[]row{here, notI, always, always}, 2}, {[]row{always, here}, 0}, {[]row{{neg(1), pos(1)}, {both(2, 1)}, nil, always, never}, 3},
	} {
		hold(t, []step{
			{sys(of(api.HComp, univ, b), alone, x.faces...), end(x.n)[0]}, {sys(of(api.Glue, b), two, x.faces...), two(x.n)[0]}, {sys(of(api.MkGlue, b), alone, x.faces...), alone(x.n)[0]},
			{sys(of(api.Unglue, b), alone, x.faces...), app(fst(alone(x.n)[0]), b)},
			// The first row counts where the last one would be allowed, too.
			{sys(of(api.Unglue, of(api.MkGlue, b)), alone, x.faces...), app(fst(alone(x.n)[0]), of(api.MkGlue, b))},
		})
	}
	for _, faces := range [][]row{{}, {never}, {nil, here}, {notI, here}, {{neg(1), pos(1)}}, {{neg(2)}, {both(1, 2)}}} {
		hold(t, []step{
			{sys(of(api.HComp, univ, b), alone, faces...), api.Term{}}, {sys(of(api.Glue, b), two, faces...), api.Term{}}, {sys(of(api.MkGlue, b), alone, faces...), api.Term{}}, {sys(of(api.Unglue, b), alone, faces...), api.Term{}},
			{sys(of(api.Unglue, of(api.MkGlue, b)), alone, faces...), b}, {sys(of(api.Unglue, sys(of(api.MkGlue, b), alone, always)), alone, faces...), b}, {sys(of(api.Unglue, sys(of(api.MkGlue, b), alone, faces...)), alone, faces...), b},
		})
	}
}

// A branch of an HComp is a line: it is told at its end, and what is outside is one less.
func TestTotalLines(t *testing.T) {
	at := func(u api.Term) api.Term { return grown(of(api.HComp, loop(0), loop(1)), always, u) }
	hold(t, []step{
		{at(loop(0)), loops(one...)}, {at(loops(neg(1))), loops()}, {at(loop(1)), loop(0)}, {at(loops(neg(1), pos(6))), loops(pos(3))}, {at(plam(loops(pos(2), pos(4)))), plam(loops(one...))}, {at(plam(loop(0))), plam(loop(0))}, {at(plam(loop(2))), plam(loop(1))},
		{at(pair(v(0), papp(v(1), v(2), v(3), row{pos(3)}))), pair(v(0), papp(v(1), v(2), v(3), i))}, {at(grown(grown(of(api.MkGlue, v(4)), row{neg(1)}, univ), row{pos(3)}, loop(0))), grown(of(api.MkGlue, v(4)), row{pos(1)}, loops(one...))}, {at(carry(loop(1), univ, row{pos(1)})), carry(loops(one...), univ, always)},
		{grown(at(loop(2)), always, loop(3)), loop(1)},
	})
}

// The kinds whose terms do not step, and Kids whose kinds just miss a row.
func TestNothingSteps(t *testing.T) {
	rows := map[int]bool{api.App: true, api.Fst: true, api.Snd: true, api.PApp: true, api.Loop: true, api.Merid: true, api.CircleEl: true, api.SuspEl: true, api.The: true, api.Transp: true, api.HComp: true, api.Glue: true, api.MkGlue: true, api.Unglue: true}
	for _, part := range []api.Term{univ, v(0), lam(v(0)), plam(loop(0)), pair(univ, base), base, north, south, loops(), loops(one...), merid(univ, one), of(api.MkGlue, univ), of(api.The, univ, univ), app(lam(v(0)), univ)} {
		for branches := range 3 {
			for _, x := range sample.InEachPlace(branches, func(byte) api.Term { return part }, i, here) {
				if !rows[x.Kind] {
					hold(t, []step{{x, api.Term{}}})
				}
			}
		}
	}
	inner := map[int]int{api.App: api.Lam, api.Fst: api.Pair, api.Snd: api.Pair, api.PApp: api.PLam, api.Unglue: api.MkGlue}
	part := func(kind int) func(byte) api.Term {
		return func(byte) api.Term {
			return sample.InEachPlace(0, func(byte) api.Term { return v(3) }, i, here)[kind-api.Var]
		}
	}
	for kind := api.Var; kind <= api.The; kind++ {
		for _, x := range sample.InEachPlace(1, part(kind), i, here) {
			_, ok, e := Step(x)
			want := inner[x.Kind] == kind || x.Kind == api.The || x.Kind == api.CircleEl && (kind == api.Base || kind == api.Loop) || x.Kind == api.SuspEl && (kind == api.North || kind == api.South || kind == api.Merid)
			if ok != want || e != api.OK {
				t.Errorf("the kind %d of %d: %t, %d, not %t", x.Kind, kind, ok, e, want)
			}
		}
	}
	hold(t, []step{
		{app(univ, lam(v(0))), api.Term{}}, {app(of(api.Pi, univ, univ), univ), api.Term{}}, {app(plam(univ), univ), api.Term{}}, {papp(lam(univ), univ, univ, i), api.Term{}}, {papp(univ, plam(univ), plam(univ), i), api.Term{}}, {fst(of(api.Sigma, univ, univ)), api.Term{}}, {snd(of(api.Sigma, univ, univ)), api.Term{}}, {fst(app(univ, univ)), api.Term{}},
		{of(api.Unglue, grown(of(api.Glue, univ), here, univ, univ)), api.Term{}}, {of(api.MkGlue, of(api.Unglue, univ)), api.Term{}}, {of(api.Glue, of(api.MkGlue, univ)), api.Term{}}, {of(api.HComp, of(api.MkGlue, univ), of(api.MkGlue, univ)), api.Term{}}, {fst(of(api.MkGlue, univ)), api.Term{}}, {lam(app(lam(v(0)), univ)), api.Term{}}, {pair(fst(pair(univ, univ)), univ), api.Term{}},
	})
}
