package head

import (
	"math"
	"testing"

	"hypercube/api"
	"hypercube/sample"
	"hypercube/step"
	"hypercube/term"
)

const billion = 1000000000

// tall tells a term that is so deep.
func tall(depth int) api.Term { return times(depth-1, univ, fst) }

// refused holds a refusal against what is wanted.
func refused(t *testing.T, defs []step.Def, x api.Term, fuel int, e api.Errno) {
	t.Helper()
	heads(t, defs, x, fuel, api.Term{}, 0, e)
}

// wrongFuels tells such as may not be.
func wrongFuels() []int {
	return []int{-1, -2, api.MaxFuel + 1, api.MaxFuel + 2, 1 << 20, 1 << 32, 1<<32 + 5, math.MaxInt, math.MinInt}
}

// What Formed refuses, in its order, whatever the fuel and the definitions are: of nodes of all kinds.
func TestNoTerms(t *testing.T) {
	doubled := func(x api.Term) api.Term { return pair(x, x) }
	defs := []step.Def{{Name: "", Body: univ}, {Name: "c", Body: univ}, {Name: "9", Body: univ}, {Name: "a", Body: api.Term{}}}
	fuels := append(wrongFuels(), 0, 1, 50, api.MaxFuel)
	for _, bad := range []struct {
		part api.Term
		e    api.Errno
	}{
		{api.Term{}, api.ErrTerm}, {of(29), api.ErrTerm}, {v(-1), api.ErrTerm}, {lam(v(-1)), api.ErrTerm}, {name("9"), api.ErrTerm}, {with(base, own), api.ErrTerm}, {loop(24), api.ErrTerm}, {of(api.Fst), api.ErrTerm},
		{tall(200), api.ErrDeep}, {pair(tall(200), sample.Balanced(20001)), api.ErrDeep}, {sample.Balanced(20000), api.ErrSize}, {pair(api.Term{}, sample.Balanced(20001)), api.ErrSize}, {times(15, univ, doubled), api.ErrSize}, {times(1000, univ, doubled), api.ErrDeep},
	} {
		for n, x := range sample.InEachPlace(2, func(byte) api.Term { return bad.part }, own, off) {
			if len(x.Kids) > 0 {
				refused(t, nil, x, fuels[n%len(fuels)], bad.e)
				refused(t, defs, x, n, bad.e)
			}
		}
		// One place alone, which would be let go, or not looked at.
		for n, x := range []api.Term{app(lam(base), bad.part), app(v(0), bad.part), lam(bad.part), fst(pair(base, bad.part)), along(always, bad.part, base), along(own, v(0), bad.part), comp(v(0), bad.part), grown(grown(comp(univ, base), always, base), off, bad.part), circleEl(pair(bad.part, base)), of(api.The, base, bad.part)} {
			refused(t, defs, x, fuels[n%len(fuels)], bad.e)
			refused(t, nil, x, 9, bad.e)
		}
	}
	for n, x := range []api.Term{{}, of(29), of(-1), v(-1), name(""), name("9"), name("a b"), {Kind: api.Const, Name: "c", N: 1}, with(name("c"), own), grown(name("c"), own, base), {Kind: api.Const, Name: "c", Kids: []api.Term{univ}}} {
		refused(t, defs, x, fuels[n%len(fuels)], api.ErrTerm)
		refused(t, defs, x, 0, api.ErrTerm)
	}
	for _, fuel := range fuels {
		refused(t, nil, tall(201), fuel, api.ErrDeep)
		refused(t, nil, sample.Balanced(20001), fuel, api.ErrSize)
	}
	costs(t, nil, tall(200), tall(200), 0)
	costs(t, nil, sample.Balanced(20000), sample.Balanced(20000), 0)
}

// Rows that may not be are refused, whatever would step else.
func TestWrongRows(t *testing.T) {
	for _, r := range sample.WrongFormulas() {
		for _, x := range []api.Term{with(of(api.Loop), r), merid(r, base), point(r, plam(base), base, base), fst(pair(base, with(of(api.Loop), r)))} {
			refused(t, nil, x, 3, api.ErrTerm)
			refused(t, nil, x, -3, api.ErrTerm)
		}
	}
	for _, r := range sample.WrongFaces() {
		for _, x := range []api.Term{along(r, circle, base), grown(comp(univ, base), r, base), grown(grown(comp(univ, base), always, base), r, base), grown(of(api.Glue, univ), r, univ, univ), grown(of(api.MkGlue, univ), r, univ), grown(of(api.Unglue, of(api.MkGlue, univ)), r, univ)} {
			refused(t, nil, x, 3, api.ErrTerm)
			refused(t, nil, x, -3, api.ErrTerm)
		}
	}
}

// A fuel that may not be is refused ahead of all steps, of heads too.
func TestWrongFuel(t *testing.T) {
	for _, fuel := range wrongFuels() {
		for _, x := range []api.Term{univ, v(0), the(base), endless(), name("a"), app(lam(pair(v(0), v(0))), sample.Balanced(10000)), tall(200)} {
			refused(t, nil, x, fuel, api.ErrArg)
			refused(t, []step.Def{{Name: "a", Body: univ}}, x, fuel, api.ErrArg)
		}
	}
	for _, fuel := range []int{0, 1, api.MaxFuel - 1, api.MaxFuel} {
		heads(t, nil, v(0), fuel, v(0), fuel, api.OK)
	}
	heads(t, nil, the(base), api.MaxFuel, base, api.MaxFuel-1, api.OK)
}

// refusal is a term whose own node steps, but what it would become is refused.
type refusal struct {
	x api.Term
	e api.Errno
}

// refusals tells some of each layer.
func refusals() []refusal {
	wide := func(clauses int, c api.Clause) api.Term {
		return with(of(api.Loop), sample.Least(sample.Met(sample.Shift(sample.Pairs(clauses), 0, 2), c)))
	}
	elim := func(a api.Term) api.Term { return circleEl(comp(circle, a)) }
	elims := func(p, a api.Term) api.Term {
		return of(api.SuspEl, p, base, base, base, comp(susp(circle), a))
	}
	return []refusal{
		{app(lam(pair(v(0), v(0))), sample.Balanced(10000)), api.ErrSize}, {app(lam(times(101, v(0), fst)), tall(100)), api.ErrDeep}, {app(lam(lam(v(1))), v(billion+1)), api.ErrTerm}, {point(row{pos(1), pos(1 << 20)}, plam(wide(33, pos(1))), base, base), api.ErrBig}, {app(lam(plam(v(0))), loop(23)), api.ErrDims},
		{elims(times(60, v(0), fst), tall(150)), api.ErrDeep}, {elim(sample.Balanced(10000)), api.ErrSize}, {elims(v(billion+1), north), api.ErrTerm}, {elims(loop(23), north), api.ErrDims},
		{along(own, pi(univ, univ), v(billion)), api.ErrTerm}, {along(own, sigma(tall(150), times(60, v(0), fst)), base), api.ErrDeep}, {along(own, sigma(univ, univ), sample.Balanced(10000)), api.ErrSize}, {along(row{pos(sample.Last)}, sigma(univ, univ), base), api.ErrDims}, {along(sample.Pairs(64), sigma(univ, univ), base), api.ErrBig},
		{comp(pi(univ, univ), v(billion)), api.ErrTerm}, {comp(sigma(tall(150), times(60, v(0), fst)), base), api.ErrDeep}, {comp(sigma(univ, univ), sample.Balanced(10000)), api.ErrSize}, {comp(of(api.Path, univ, base, base), loop(23)), api.ErrDims}, {grown(comp(sigma(univ, univ), base), own, wide(33, neg(1))), api.ErrBig},
	}
}

// refusedAt holds what is refused behind so many steps: with any fuel that is left then, but not without.
func refusedAt(t *testing.T, defs []step.Def, x api.Term, behind int, e api.Errno) {
	t.Helper()
	for _, fuel := range []int{behind + 1, behind + 2, behind + 9, api.MaxFuel} {
		refused(t, defs, x, fuel, e)
	}
	for fuel := range behind + 1 {
		refused(t, defs, x, fuel, api.ErrFuel)
	}
}

// What a step is refused with ends it: of the own node, of what it becomes, of main Kids; the want of fuel for that step is told ahead of it.
func TestRefusedSteps(t *testing.T) {
	closed := 0
	for _, bad := range refusals() {
		refusedAt(t, nil, bad.x, 0, bad.e)
		refusedAt(t, nil, fst(pair(bad.x, endless())), 1, bad.e)
		refusedAt(t, nil, snd(fst(pair(pair(base, bad.x), endless()))), 2, bad.e)
		refusedAt(t, nil, along(always, endless(), along(own, the(univ), bad.x)), 3, bad.e)
		if term.Right(bad.x, 0, 0) == api.OK {
			closed++
			refusedAt(t, []step.Def{{Name: "a", Body: bad.x}}, name("a"), 1, bad.e)
			refusedAt(t, []step.Def{{Name: "a", Body: lam(the(bad.x))}}, app(name("a"), base), 3, bad.e)
		}
		for _, frame := range frames() {
			if x := frame(fst(pair(base, bad.x))); !still(x) {
				t.Fatalf("%s steps", short(x))
			}
			refusedAt(t, nil, frame(snd(pair(base, bad.x))), 1, bad.e)
		}
	}
	if closed < 5 {
		t.Errorf("too few may be bodies: %d", closed)
	}
}

// A second Kid, too.
func TestRefusedSecondKids(t *testing.T) {
	for _, bad := range refusals() {
		// (A composition is carried as it is.)
		if bad.x.Kind != api.HComp {
			refusedAt(t, nil, along(own, susp(univ), bad.x), 0, bad.e)
		}
		refusedAt(t, nil, along(own, the(susp(univ)), snd(pair(base, bad.x))), 2, bad.e)
		refusedAt(t, nil, along(own, bad.x, endless()), 0, bad.e)
		costs(t, nil, along(own, the(v(0)), bad.x), along(own, v(0), bad.x), 1)
	}
}

// What is not looked at is not refused.
func TestNotRefused(t *testing.T) {
	for _, bad := range refusals() {
		for _, x := range []api.Term{app(v(0), bad.x), lam(bad.x), pair(bad.x, bad.x), point(own, v(0), bad.x, base), grown(comp(circle, base), own, bad.x), circleEl(app(v(0), bad.x)), merid(own, bad.x), susp(bad.x)} {
			if bad.e != api.ErrSize && bad.e != api.ErrDeep || len(x.Kids) == 1 {
				costs(t, nil, x, x, 0)
			}
		}
		costs(t, nil, fst(pair(base, bad.x)), base, 1)
		costs(t, nil, app(lam(the(base)), bad.x), base, 2)
		costs(t, nil, along(always, bad.x, base), base, 1)
	}
}

// A node that is too great, or too deep, with its main Kid's head is refused, though its parts are not, and whatever it would step to: at no cost. The steps ahead of that cost.
func TestTooGreatWithAHead(t *testing.T) {
	great, high := lam(sample.Balanced(15000)), lam(tall(196))
	kept := func(x api.Term) []step.Def { return []step.Def{{Name: "a", Body: x}, {Name: "b", Body: the(x)}} }
	for _, x := range []struct {
		body, with api.Term
		cost       int
		e          api.Errno
	}{
		{great, app(name("a"), sample.Balanced(4998)), 2, api.OK}, {great, app(name("a"), sample.Balanced(4999)), 1, api.ErrSize}, {great, app(name("b"), sample.Balanced(4999)), 2, api.ErrSize}, {great, app(app(name("b"), base), sample.Balanced(4999)), 3, api.OK},
		{high, times(2, name("a"), fst), 1, api.OK}, {high, times(3, name("a"), fst), 1, api.OK}, {high, times(4, name("a"), fst), 1, api.ErrDeep}, {high, times(9, name("b"), fst), 2, api.ErrDeep},
		{high, pair(name("a"), tall(199)), 0, api.OK}, {high, fst(pair(fst(name("a")), tall(190))), 2, api.OK}, {high, app(fst(fst(fst(name("a")))), sample.Balanced(19000)), 1, api.ErrDeep},
		{pair(tall(150), sample.Balanced(15000)), app(fst(fst(name("a"))), sample.Balanced(4000)), 2, api.OK}, {pair(tall(150), sample.Balanced(15000)), fst(fst(app(name("a"), sample.Balanced(6000)))), 1, api.ErrSize}, {pair(tall(197), univ), times(3, app(name("a"), base), fst), 1, api.ErrDeep},
		{sample.Balanced(15000), along(always, name("a"), sample.Balanced(5000)), 1, api.OK}, {sample.Balanced(15000), along(never, name("a"), sample.Balanced(4998)), 1, api.OK}, {sample.Balanced(15000), along(never, name("a"), sample.Balanced(5000)), 1, api.ErrSize}, {susp(sample.Balanced(15000)), along(never, name("a"), the(sample.Balanced(4997))), 1, api.ErrSize},
		{susp(tall(198)), along(never, name("a"), the(north)), 3, api.OK}, {susp(tall(198)), app(along(never, name("a"), the(north)), base), 3, api.OK}, {susp(tall(199)), along(never, name("a"), the(north)), 1, api.ErrDeep},
		{sample.Balanced(19998), along(never, susp(univ), name("a")), 1, api.ErrSize}, {sample.Balanced(19997), along(never, susp(univ), name("a")), 1, api.OK}, {tall(199), along(never, susp(univ), name("a")), 1, api.OK}, {tall(200), along(never, susp(univ), name("a")), 1, api.ErrDeep},
	} {
		if x.e == api.OK {
			_, left, e := Head(kept(x.body), x.with, x.cost)
			if left != 0 || e != api.OK {
				t.Errorf("Head(%s) with %s: %d, %d", short(x.with), short(x.body), left, e)
			}
		} else {
			refused(t, kept(x.body), x.with, x.cost, x.e)
			refused(t, kept(x.body), x.with, api.MaxFuel, x.e)
		}
		for fuel := range x.cost {
			refused(t, kept(x.body), x.with, fuel, api.ErrFuel)
		}
	}
}

// Main Kids within main Kids that become too deep, or too great, as they are put in their places; each of them steps by itself.
func TestGrowing(t *testing.T) {
	for _, x := range []struct {
		beside api.Term
		e      api.Errno
		fits   int
	}{{base, api.ErrDeep, 199}, {sample.Balanced(999), api.ErrSize, 19}, {tall(150), api.ErrDeep, 50}, {tall(199), api.ErrDeep, 1}, {sample.Balanced(19998), api.ErrSize, 1}} {
		for _, n := range []int{1, x.fits, x.fits + 1, x.fits + 30} {
			var defs []step.Def
			for k := range n {
				defs = append(defs, step.Def{Name: "a" + digits(k), Body: app(name("a"+digits(k+1)), x.beside)})
			}
			want := times(n, name("a"+digits(n)), func(f api.Term) api.Term { return app(f, x.beside) })
			if n <= x.fits {
				costs(t, defs, name("a000"), want, n)
				continue
			}
			for _, more := range []int{0, 1, 77} {
				refused(t, defs, name("a000"), n+more, x.e)
			}
			refused(t, defs, name("a000"), n-1, api.ErrFuel)
		}
	}
}

// digits tells a number below 1000 as a name goes on.
func digits(n int) string {
	return string([]byte{byte('0' + n/100), byte('0' + n/10%10), byte('0' + n%10)})
}
