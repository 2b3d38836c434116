package beta

import (
	"testing"

	"hypercube/api"
	"hypercube/sample"
	"hypercube/term"
)

// limit is a term that may be, and the nodes and the depth of what it becomes: as they would be, if that is refused.
type limit struct {
	from        api.Term
	size, depth int
}

// told tells what is refused of such an answer.
func (l limit) told() api.Errno {
	switch {
	case l.depth > 200:
		return api.ErrDeep
	case l.size > 20000:
		return api.ErrSize
	}
	return api.OK
}

func limited(t *testing.T, l []limit) {
	t.Helper()
	for n, x := range l {
		got, ok, e := Step(x.from)
		want := x.told()
		if term.Formed(x.from) != api.OK || e != want || ok != (e == api.OK) {
			t.Errorf("the limit %d: Step(%s) = %s, %t, %d, not %d", n, short(x.from), short(got), ok, e, want)
		}
		if e == api.OK && (term.Size(got) != x.size || x.depth > 0 && term.Depth(got) != x.depth) || e != api.OK && got.Kind != 0 {
			t.Errorf("the limit %d: %d nodes, %d deep, not %d and %d", n, term.Size(got), term.Depth(got), x.size, x.depth)
		}
	}
}

// tall tells a term that is so deep.
func tall(depth int) api.Term { return times(depth-1, univ, fst) }

// The greatest answers that may be, and those with a node more.
func TestGreat(t *testing.T) {
	great := sample.Balanced
	twice := app(lam(pair(v(0), v(0))), univ)
	of2 := func(extra, a int) api.Term { return app(lam(pair(times(extra, v(0), fst), v(0))), great(a)) }
	circles := func(b, l int) api.Term { return of(api.CircleEl, univ, great(b), great(l), loop(0)) }
	unglues := func(e, b int) api.Term { return grown(of(api.Unglue, great(b)), always, great(e)) }
	limited(t, []limit{
		{twice, 3, 2}, {of2(0, 9999), 19999, 0}, {of2(1, 9999), 20000, 0}, {of2(2, 9999), 20001, 0}, {of2(0, 10000), 20001, 0}, {of2(0, 19994), 39989, 0}, {app(lam(v(0)), great(19997)), 19997, 0}, {app(lam(great(19997)), univ), 19997, 0},
		{circles(9999, 1), 20000, 0}, {circles(9999, 2), 20001, 0}, {circles(9998, 3), 20000, 0}, {circles(9998, 4), 20001, 0}, {circles(1, 19995), 19998, 0}, {circles(19995, 1), 39992, 0}, {circles(6666, 6667), 20000, 0}, {circles(6667, 6667), 20002, 0},
		{unglues(9999, 9999), 20000, 0}, {unglues(9999, 10000), 20001, 0}, {unglues(10000, 9999), 20001, 0}, {unglues(1, 19997), 20000, 0}, {unglues(1, 19998), 20001, 0}, {unglues(19998, 1), 20001, 0},
		// Branches that go are counted ahead alone.
		{grown(unglues(9999, 9999), always, univ), 20000, 0}, {grown(unglues(9999, 9998), never, univ), 19999, 0},
		{of(api.SuspEl, univ, great(5000), great(5000), great(5000), merid(great(4997), i)), 19999, 0}, {fst(pair(great(19997), univ)), 19997, 0}, {snd(pair(univ, great(19997))), 19997, 0}, {papp(plam(univ), great(19996), univ, zero), 19996, 0}, {papp(plam(great(19996)), univ, univ, i), 19996, 0}, {of(api.The, great(19998), univ), 19998, 0}, {carry(univ, great(19998), always), 19998, 0}, {grown(of(api.HComp, univ, univ), always, great(19997)), 19997, 0}, {of(api.Unglue, of(api.MkGlue, great(19998))), 19998, 0},
	})
}

// The deepest answers that may be, and those that are one deeper.
func TestDeep(t *testing.T) {
	at := func(k, a int) api.Term { return app(lam(times(k, v(0), fst)), tall(a)) }
	susps := func(n, m, a int) api.Term { return of(api.SuspEl, univ, tall(n), univ, tall(m), merid(tall(a), i)) }
	unglues := func(e, b int) api.Term { return grown(of(api.Unglue, tall(b)), always, tall(e)) }
	limited(t, []limit{
		{at(0, 199), 199, 199}, {at(1, 199), 200, 200}, {at(2, 199), 201, 201}, {at(100, 100), 200, 200}, {at(100, 101), 201, 201}, {at(197, 3), 200, 200}, {at(197, 4), 201, 201}, {at(197, 199), 396, 396},
		{susps(1, 198, 1), 203, 200}, {susps(1, 199, 1), 204, 201}, {susps(199, 1, 1), 204, 200}, {susps(1, 1, 198), 203, 200}, {susps(199, 198, 198), 598, 200}, {susps(199, 199, 198), 599, 201},
		{unglues(198, 1), 201, 200}, {unglues(199, 1), 202, 201}, {unglues(198, 199), 399, 200}, {unglues(1, 199), 202, 200}, {unglues(199, 199), 400, 201},
		{of(api.CircleEl, univ, tall(199), tall(199), loop(0)), 598, 200}, {of(api.CircleEl, tall(199), univ, univ, loop(0)), 4, 2}, {fst(pair(tall(198), univ)), 198, 198}, {papp(plam(tall(198)), univ, univ, i), 198, 198}, {of(api.The, tall(199), tall(199)), 199, 199}, {grown(of(api.HComp, univ, univ), always, tall(199)), 199, 199},
	})
	// What is too deep, and too great as well.
	great := sample.Balanced(19799)
	for _, x := range []api.Term{grown(of(api.Unglue, great), always, tall(199))} {
		limited(t, []limit{{x, 20001, 201}})
	}
	steps(t, app(lam(pair(v(0), times(150, v(0), fst))), pair(tall(60), sample.Balanced(9950))), api.Term{}, api.ErrSize)
	steps(t, app(lam(pair(v(0), times(150, v(0), fst))), pair(tall(60), sample.Balanced(9700))), api.Term{}, api.ErrDeep)
}
