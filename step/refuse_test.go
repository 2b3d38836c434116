package step

import (
	"testing"

	"hypercube/api"
	"hypercube/sample"
)

const billion = 1000000000

// What Formed refuses, in its order, whatever the definitions are: of nodes of all kinds.
func TestNoTerms(t *testing.T) {
	doubled := func(x api.Term) api.Term { return pair(x, x) }
	defs := []Def{{"", univ}, {"c", univ}, {"9", univ}, {"a", api.Term{}}}
	for _, bad := range []struct {
		part api.Term
		e    api.Errno
	}{
		{api.Term{}, api.ErrTerm}, {of(29), api.ErrTerm}, {v(-1), api.ErrTerm}, {lam(v(-1)), api.ErrTerm}, {name("9"), api.ErrTerm}, {with(base, own), api.ErrTerm}, {loop(24), api.ErrTerm}, {of(api.Fst), api.ErrTerm},
		{tall(200), api.ErrDeep}, {pair(tall(200), sample.Balanced(20001)), api.ErrDeep}, {sample.Balanced(20000), api.ErrSize}, {pair(api.Term{}, sample.Balanced(20001)), api.ErrSize}, {times(15, univ, doubled), api.ErrSize}, {times(1000, univ, doubled), api.ErrDeep},
	} {
		for branches := range 3 {
			for _, x := range sample.InEachPlace(branches, func(byte) api.Term { return bad.part }, own, off) {
				if len(x.Kids) > 0 {
					steps(t, nil, x, api.Term{}, bad.e)
					steps(t, defs, x, api.Term{}, bad.e)
				}
			}
		}
		// One place alone, where another part would tell.
		for _, x := range []api.Term{app(lam(base), bad.part), app(lam(bad.part), base), fst(pair(base, bad.part)), along(always, bad.part, base), along(own, pi(bad.part, univ), base), comp(sigma(univ, univ), bad.part), grown(grown(comp(univ, base), always, base), off, bad.part), of(api.CircleEl, bad.part, base, base, base), of(api.The, base, bad.part)} {
			steps(t, defs, x, api.Term{}, bad.e)
		}
	}
	for _, x := range []api.Term{{}, of(29), of(-1), v(-1), name(""), name("9"), name("a b"), {Kind: api.Const, Name: "c", N: 1}, with(name("c"), own), grown(name("c"), own, base), {Kind: api.Const, Name: "c", Kids: []api.Term{univ}}} {
		steps(t, defs, x, api.Term{}, api.ErrTerm)
	}
	steps(t, nil, tall(201), api.Term{}, api.ErrDeep)
	steps(t, nil, tall(200), api.Term{}, api.OK)
	steps(t, nil, sample.Balanced(20001), api.Term{}, api.ErrSize)
	steps(t, nil, sample.Balanced(20000), api.Term{}, api.OK)
}

// Rows that may not be are refused, whatever would tell else.
func TestWrongRows(t *testing.T) {
	for _, r := range sample.WrongFormulas() {
		for _, x := range []api.Term{with(of(api.Loop), r), with(of(api.Merid, base), r), with(of(api.PApp, plam(base), base, base), r)} {
			steps(t, nil, x, api.Term{}, api.ErrTerm)
		}
	}
	for _, r := range sample.WrongFaces() {
		for _, x := range []api.Term{along(r, circle, base), grown(comp(univ, base), r, base), grown(grown(comp(univ, base), always, base), r, base), grown(of(api.Glue, univ), r, univ, univ), grown(of(api.MkGlue, univ), r, univ), grown(of(api.Unglue, of(api.MkGlue, univ)), r, univ)} {
			steps(t, nil, x, api.Term{}, api.ErrTerm)
		}
	}
}

// wide tells a formula of so many clauses with one literal.
func wide(clauses int, c api.Clause) api.Term {
	return with(of(api.Loop), sample.Least(sample.Met(sample.Shift(sample.Pairs(clauses), 0, 2), c)))
}

// What one of the steps is refused with is told at once.
func TestRefusedByALayer(t *testing.T) {
	twice, path := pair(v(0), v(0)), plam(wide(33, pos(1)))
	far, half := v(billion-1), sample.Balanced(9999)
	h := func(a api.Term) api.Term { return comp(circle, a) }
	elim := func(a api.Term) api.Term { return of(api.CircleEl, univ, base, base, h(a)) }
	elims := func(p api.Term) api.Term { return of(api.SuspEl, p, base, base, base, h(base)) }
	for _, x := range []struct {
		t api.Term
		e api.Errno
	}{
		// Chapter 16.
		{app(lam(twice), half), api.OK}, {app(lam(twice), sample.Balanced(10000)), api.ErrSize}, {app(lam(times(101, v(0), fst)), tall(100)), api.ErrDeep}, {app(lam(lam(v(1))), v(billion+1)), api.ErrTerm}, {with(of(api.PApp, path, base, base), row{pos(1), pos(1 << 20)}), api.ErrBig}, {app(lam(plam(v(0))), loop(23)), api.ErrDims},
		// Chapter 17.
		{elim(tall(198)), api.ErrDeep}, {elim(sample.Balanced(9980)), api.OK}, {elim(sample.Balanced(10000)), api.ErrSize}, {elims(v(0)), api.OK}, {elims(v(billion + 1)), api.ErrTerm}, {elims(loop(23)), api.ErrDims}, {elims(sample.Balanced(19989)), api.ErrSize},
		// Chapter 19.
		{along(own, pi(univ, univ), far), api.OK}, {along(own, pi(univ, univ), v(billion)), api.ErrTerm}, {along(own, pi(univ, univ), tall(198)), api.ErrDeep}, {along(own, sigma(univ, univ), sample.Balanced(10000)), api.ErrSize}, {along(row{pos(sample.Last)}, sigma(univ, univ), base), api.ErrDims}, {along(sample.Pairs(64), sigma(univ, univ), base), api.ErrBig},
		// Chapter 20.
		{comp(pi(univ, univ), far), api.OK}, {comp(pi(univ, univ), v(billion)), api.ErrTerm}, {comp(pi(univ, univ), tall(199)), api.ErrDeep}, {comp(sigma(univ, univ), sample.Balanced(10000)), api.ErrSize}, {comp(of(api.Path, univ, base, base), loop(23)), api.ErrDims}, {grown(comp(sigma(univ, univ), base), own, wide(33, neg(1))), api.ErrBig},
	} {
		got, ok, e := Step(someDefs(), x.t)
		if e != x.e || ok != (e == api.OK) || e != api.OK && (got.Kind != 0 || got.Kids != nil) {
			t.Errorf("Step(%s) = %s, %t, %d, not %d", short(x.t), short(got), ok, e, x.e)
		}
	}
}

// What would be refused of a later step is not, where an earlier one tells.
func TestNotRefused(t *testing.T) {
	for _, a := range []api.Term{v(billion + 1), tall(199), sample.Balanced(19990), loop(23)} {
		steps(t, nil, along(always, pi(univ, univ), a), a, api.OK)
		steps(t, nil, grown(comp(pi(univ, univ), a), always, base), base, api.OK)
	}
}
