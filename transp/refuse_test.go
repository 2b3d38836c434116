package transp

import (
	"math"
	"slices"
	"testing"

	"hypercube/api"
	"hypercube/sample"
)

const billion = 1000000000

// args are the parts of a term: the line's type, or the first of two; the second one; the ends of a line of paths; what is carried; and phi.
type args struct {
	a, b, u, w, x api.Term
	phi           row
}

// sane tells parts that may be. Each has room for others, one beside the other; and the second type has its variable behind binders of both sorts.
func sane() args {
	part := func() api.Term { return of(api.MkGlue, univ) }
	return args{part(), of(api.MkGlue, pair(lam(v(1)), plam(plam(v(0))))), part(), part(), part(), row{neg(1)}}
}

// bare tells such with phi that is never.
func bare() args {
	x := sane()
	x.phi = never
	return x
}

func (x args) functions() api.Term { return along(x.phi, pi(x.a, x.b), x.x) }
func (x args) pairs() api.Term     { return along(x.phi, sigma(x.a, x.b), x.x) }
func (x args) paths() api.Term     { return along(x.phi, paths(x.a, x.u, x.w), x.x) }

// fault is something that is refused, and how it comes into the parts: ahead of what is there.
type fault struct {
	e    api.Errno
	into func(*args)
}

// place tells one of the parts.
type place func(*args) *api.Term

var (
	inA = place(func(x *args) *api.Term { return &x.a })
	inB = place(func(x *args) *api.Term { return &x.b })
	inU = place(func(x *args) *api.Term { return &x.u })
	inW = place(func(x *args) *api.Term { return &x.w })
	inX = place(func(x *args) *api.Term { return &x.x })
)

// stands tells the fault that a part stands there where a face is, one deeper than the place.
func (p place) stands(f row, e api.Errno, bad api.Term) fault {
	return fault{e, func(x *args) {
		t := p(x)
		t.Sys = append(system{at(f, bad)}, t.Sys...)
	}}
}

// has tells the fault that it does so always; gone, that it does so nowhere where the line begins.
func (p place) has(e api.Errno, bad api.Term) fault  { return p.stands(always, e, bad) }
func (p place) gone(e api.Errno, bad api.Term) fault { return p.stands(own, e, bad) }

// deep tells the fault that the place is so deep; great, that it has so many nodes more; variable and dimension, that it has such a one.
func (p place) deep(depth int) fault    { return p.has(api.ErrDeep, tall(depth-1)) }
func (p place) great(nodes int) fault   { return p.has(api.ErrSize, sample.Balanced(nodes)) }
func (p place) variable(n int) fault    { return p.has(api.ErrTerm, v(n)) }
func (p place) dimension(i int) fault   { return p.has(api.ErrDims, loop(i)) }
func (p place) wide(l api.Clause) fault { return p.has(api.ErrBig, wide(33, l)) }

// bound tells the fault that it has a dimension behind so many binders more.
func (p place) bound(i, binders int) fault {
	return p.has(api.ErrDims, times(binders, loop(i), plam))
}

// wide tells a formula of so many clauses with a literal of the dimension 0 or 1, of two further ones each.
func wide(clauses int, literal api.Clause) api.Term {
	return loops(sample.Least(sample.Met(shift(sample.Pairs(clauses), 0, 2), literal))...)
}

// tall tells a term that is so deep.
func tall(depth int) api.Term { return times(depth-1, univ, fst) }

// with tells the fault that two parts make together.
func (f fault) with(g fault) fault {
	return fault{f.e, func(x *args) {
		f.into(x)
		g.into(x)
	}}
}

// faced tells the fault that phi is some row.
func faced(e api.Errno, f row) fault {
	return fault{e, func(x *args) { x.phi = f }}
}

// often tells that the second type has its variable more often.
func often() fault { return inB.has(api.ErrSize, pair(v(0), pair(v(0), v(0)))) }

// unformed tells what Formed refuses of the whole, in the order of depth, size and nodes; of places in the line, and then of what is carried.
func unformed(line ...place) []fault {
	deep, great, bad := []fault{faced(api.ErrTerm, row{both(2, 2)})}[:0], []fault(nil), []fault{faced(api.ErrTerm, row{both(2, 2)})}
	for n, p := range append(line, inX) {
		depth := 199
		if n == len(line) {
			depth = 200
		}
		deep = append(deep, p.deep(depth))
		great = append(great, p.great(19995))
		bad = append(bad, p.has(api.ErrTerm, api.Term{}), p.has(api.ErrTerm, lam(v(-1))), p.has(api.ErrTerm, loops(pos(1<<24))))
	}
	return slices.Concat(deep, great, bad)
}

// faces tells what is refused of phi where it goes along a line.
func faces() []fault {
	return []fault{faced(api.ErrDims, row{pos(sample.Last)}), faced(api.ErrBig, sample.Pairs(64))}
}

// within tells what is refused of the dimensions of a line two binders further in, where a formula comes for its own one that makes literals of one sort too many.
func (p place) within(literal api.Clause) []fault {
	return []fault{p.dimension(22), p.bound(22, 22), p.wide(literal), p.bound(22, 22)}
}

// ofFunctions tells all that is refused of what is carried along a line of functions, in order.
func ofFunctions() []fault {
	return slices.Concat(
		unformed(inA, inB),
		// w.
		[]fault{inA.variable(billion)}, faces(), inA.within(pos(1)),
		// B, with w in it.
		[]fault{inB.variable(billion), inA.great(4500).with(often()), inA.variable(billion - 1), faced(api.ErrDims, row{pos(1 << 22)}), inA.dimension(21), inA.bound(21, 1), inA.deep(196)},
		// a^1, and the whole.
		[]fault{inX.variable(billion), inX.deep(198), inA.deep(194), inA.great(6700), inA.great(5000).with(inX.great(5000)), inA.great(5000).with(inB.great(5000))},
	)
}

// ofPairs tells the same of a line of pairs.
func ofPairs() []fault {
	return slices.Concat(
		unformed(inA, inB), faces(),
		[]fault{inA.dimension(22), inA.variable(billion + 1), inA.bound(22, 22), inA.wide(neg(1)), inA.bound(22, 22), inX.variable(billion + 1), inX.dimension(23), inX.bound(23, 1), inX.deep(199)},
		// B, with what runs along A in it.
		[]fault{inA.great(4500).with(often()), inX.great(4500).with(often()), inA.variable(billion), inX.variable(billion), faced(api.ErrDims, row{pos(1 << 22)}), inA.dimension(21), inA.bound(21, 1), inX.dimension(22), inX.dimension(21), inX.bound(22, 1), inA.deep(196), inX.deep(195)},
		// The whole.
		[]fault{inA.deep(194), inX.deep(193), inA.great(6700), inX.great(5000), inA.great(3000).with(inX.great(3000))},
	)
}

// ahead tells what is refused of a line of paths ahead of the system: of its types turned about, and of the base.
func ahead() []fault {
	return []fault{
		inA.dimension(23), inA.variable(billion + 1), inA.bound(22, 22),
		inX.variable(billion + 1), inX.dimension(23), inX.bound(23, 1), inU.variable(billion + 1), inW.variable(billion + 1),
	}
}

// side tells what is refused of an end as a line by itself: what is not there where it begins.
func (p place) side() []fault {
	return []fault{p.gone(api.ErrTerm, v(billion+1)), p.gone(api.ErrDims, loop(23)), p.has(api.ErrDims, loops(pos(1|sample.Last))), p.gone(api.ErrTerm, lam(v(billion+1)))}
}

// inner tells what is refused of the types where they are composed along: the line's own dimension is the outer one.
func inner() []fault {
	far := inA.bound(23, 22)
	return []fault{inA.dimension(22), far, inA.wide(pos(2)), far}
}

// ofPaths tells the same of a line of paths.
func ofPaths() []fault {
	return slices.Concat(
		unformed(inA, inU, inW), ahead(),
		[]fault{faced(api.ErrDims, row{pos(sample.Last)}), inX.dimension(22), inX.bound(22, 1), inU.dimension(23), inU.bound(23, 1), inW.dimension(23), inW.bound(23, 1)},
		inU.side(), inW.side(), []fault{inX.deep(199), inU.great(9995), inW.great(9995)}, inner(),
		[]fault{inX.deep(198), inU.deep(198), inW.deep(198), inA.great(4000), inX.great(9985), inU.great(6700), inW.great(6700), inA.great(3993).with(inX.great(1))},
		[]fault{inX.deep(197), inU.deep(197), inW.deep(197), inA.deep(198)},
	)
}

// ofBarePaths tells the same, where phi is never.
func ofBarePaths() []fault {
	return slices.Concat(
		unformed(inA, inU, inW), ahead(), inU.side(), []fault{inU.dimension(23), inU.bound(23, 1)}, inW.side(), []fault{inW.dimension(23), inW.bound(23, 1)}, inner(),
		[]fault{inX.deep(198), inU.deep(198), inW.deep(198), inA.great(5000), inU.great(9990), inW.great(9990), inA.great(4400).with(inX.great(2400)), inX.deep(197), inU.deep(197), inW.deep(197), inA.deep(198)},
	)
}

// shape is a line's, with what is refused of it in order.
type shape struct {
	parts func() args
	whole func(args) api.Term
	all   []fault
}

func shapes() []shape {
	return []shape{{sane, args.functions, ofFunctions()}, {sane, args.pairs, ofPairs()}, {sane, args.paths, ofPaths()}, {bare, args.paths, ofBarePaths()}}
}

// Each of all faults is told; of two the first: each is held against those next behind it, and against many of those further on.
func TestWhichIsToldFirst(t *testing.T) {
	for k, x := range shapes() {
		if _, ok, e := Step(x.whole(x.parts())); !ok || e != api.OK {
			t.Errorf("the shape %d without a fault: %t, %d", k, ok, e)
		}
		for n, first := range x.all {
			alone := x.parts()
			first.into(&alone)
			becomes(t, x.whole(alone), api.Term{}, first.e)
			if t.Failed() {
				t.Fatalf("the shape %d, of the fault %d", k, n)
			}
			for m, second := range x.all[n+1:] {
				two := x.parts()
				second.into(&two)
				first.into(&two)
				becomes(t, x.whole(two), api.Term{}, first.e)
				if t.Failed() {
					t.Fatalf("the shape %d, of the faults %d and %d", k, n, n+1+m)
				}
			}
		}
	}
}

// Swap refuses what a lift does ahead of what is refused of putting one dimension behind the other, wherever they stand.
func TestSwapRefuses(t *testing.T) {
	far := times(22, loop(22), plam)
	for _, x := range []struct {
		t    api.Term
		want api.Errno
	}{
		{loop(23), api.ErrDims}, {v(billion + 1), api.ErrTerm}, {plam(loop(23)), api.ErrDims}, {times(21, loop(23), plam), api.ErrDims}, {far, api.ErrDims}, {lam(v(billion + 1)), api.ErrTerm}, {along(row{pos(sample.Last)}, univ, univ), api.ErrDims}, {comp(univ, univ, at(row{neg(sample.Last)}, univ)), api.ErrDims}, {comp(univ, univ, at(never, loop(23))), api.ErrDims},
		{pair(loop(23), v(billion+1)), api.ErrDims}, {pair(v(billion+1), loop(23)), api.ErrTerm}, {pair(far, v(billion+1)), api.ErrTerm}, {pair(v(billion+1), far), api.ErrTerm}, {pair(far, far), api.ErrDims}, {comp(far, univ, at(never, v(billion+1))), api.ErrTerm},
		{pair(far, v(-1)), api.ErrTerm}, {pair(loop(23), tall(200)), api.ErrDeep}, {pair(v(billion+1), sample.Balanced(19999)), api.ErrSize}, {pair(sample.Balanced(20001), tall(200)), api.ErrDeep},
	} {
		swaps(t, x.t, api.Term{}, x.want)
	}
	// A dimension is put behind the other one where it is, and not elsewhere.
	swaps(t, times(21, loop(21), plam), times(21, loop(22), plam), api.OK)
	swaps(t, times(21, loop(22), plam), times(21, loop(21), plam), api.OK)
	swaps(t, times(22, loop(23), plam), times(22, loop(22), plam), api.OK)
	swaps(t, times(30, loop(23), plam), times(30, loop(23), plam), api.OK)
	swaps(t, pair(v(billion), loop(22)), pair(v(billion), loop(22)), api.OK)
	swaps(t, comp(univ, univ, at(never, far)), comp(univ, univ), api.OK)
}

// What is no term is refused, whether it would become anything or not, and wherever it stands: in what goes, too.
func TestNoTerms(t *testing.T) {
	for want, l := range map[api.Errno][]api.Term{
		api.ErrTerm: {{}, v(-1), v(math.MinInt), of(api.Lam), fst(pair(univ, of(api.Univ, univ))), {Kind: 29}, {Kind: -1}, {Kind: math.MinInt}, loops(pos(1 << 24)), loops(pos(1), pos(3)), along(row{both(1, 1)}, circle, base), grown(univ, never, univ), {Kind: api.Const}, {Kind: api.Const, Name: "1"}, {Kind: api.Univ, N: 1}, with(univ, always), having(api.Glue, univ, at(always, univ)), of(api.Glue)},
		api.ErrDeep: {tall(201), times(199, pair(univ, univ), fst), times(1000, api.Term{}, fst), pair(sample.Balanced(20001), tall(200))},
		api.ErrSize: {sample.Balanced(20001), sample.Bushy(20001), pair(api.Term{}, sample.Balanced(19999))},
	} {
		for _, bad := range l {
			becomes(t, bad, api.Term{}, want)
			swaps(t, bad, api.Term{}, want)
			for _, good := range []api.Term{univ, along(never, circle, base)} {
				inEachPlace(t, good, bad, want)
			}
		}
	}
}

// inEachPlace holds that a bad part is told in each place of each kind, the others of which have a term, and of what would become something.
func inEachPlace(t *testing.T, good, bad api.Term, want api.Errno) {
	t.Helper()
	for kind := api.Var; kind <= api.The; kind++ {
		part := func(api.Term) func(int) api.Term { return func(int) api.Term { return good } }
		_, rows := sample.Places(kind, func(int) row { return never }, part(good))
		for place, isRow := range rows {
			x, _ := sample.Places(kind, func(int) row { return never }, func(k int) api.Term {
				if k == place {
					return bad
				}
				return good
			})
			if !isRow {
				swaps(t, x, api.Term{}, want)
				for _, y := range []api.Term{x, along(never, circle, x), along(always, x, good), along(never, pi(good, x), good), along(never, sigma(x, good), good), along(never, paths(good, good, x), good), along(never, having(api.Glue, good, at(never, good, x)), good)} {
					becomes(t, y, api.Term{}, want)
				}
			}
		}
	}
}

func TestWrongRows(t *testing.T) {
	for _, bad := range sample.WrongFaces() {
		branched := comp(univ, univ, at(always, univ), at(bad, univ))
		for _, l := range []api.Term{univ, circle, pi(univ, univ), sigma(univ, univ), paths(univ, univ, univ), of(api.Susp, univ), having(api.Glue, univ), v(0)} {
			becomes(t, along(bad, l, univ), api.Term{}, api.ErrTerm)
			becomes(t, along(never, l, branched), api.Term{}, api.ErrTerm)
		}
		becomes(t, along(always, pi(branched, univ), univ), api.Term{}, api.ErrTerm)
		becomes(t, along(always, univ, along(bad, univ, univ)), api.Term{}, api.ErrTerm)
		swaps(t, along(bad, univ, univ), api.Term{}, api.ErrTerm)
		swaps(t, branched, api.Term{}, api.ErrTerm)
	}
	for _, bad := range sample.WrongFormulas() {
		becomes(t, along(never, univ, loops(bad...)), api.Term{}, api.ErrTerm)
		becomes(t, along(never, sigma(univ, loops(bad...)), univ), api.Term{}, api.ErrTerm)
		swaps(t, lam(loops(bad...)), api.Term{}, api.ErrTerm)
	}
}

func TestWrongForms(t *testing.T) {
	for _, l := range []api.Term{univ, circle, pi(univ, univ), sigma(univ, univ), paths(univ, univ, univ), of(api.Susp, univ), having(api.Glue, univ), v(0)} {
		x := along(never, l, univ)
		more, less, none, named, numbered := x, x, x, x, x
		more.Kids = append(slices.Clone(x.Kids), univ)
		less.Kids, none.Kids, named.Name, numbered.N = x.Kids[:1], nil, "c", 1
		wrong := []api.Term{more, less, none, named, numbered, grown(x, never, univ), grown(x, never)}
		moreKids, row, name := l, with(l, always), l
		moreKids.Kids, name.Name = append(slices.Clone(l.Kids), univ), "c"
		lines := []api.Term{moreKids, row, name}
		if len(l.Kids) > 0 {
			fewer := l
			fewer.Kids = l.Kids[1:]
			lines = append(lines, fewer)
		}
		for _, bad := range lines {
			wrong = append(wrong, along(never, bad, univ))
		}
		for _, bad := range wrong {
			becomes(t, bad, api.Term{}, api.ErrTerm)
			swaps(t, bad, api.Term{}, api.ErrTerm)
		}
	}
}

// What goes behind no binder is not refused; what is none of these is nothing, whatever would be refused of it.
func TestWhatIsNotRefused(t *testing.T) {
	far := pair(v(math.MaxInt), pair(loop(23), times(22, loop(22), plam)))
	last := row{pos(sample.Last)}
	becomes(t, along(last, circle, far), far, api.OK)
	becomes(t, along(sample.Pairs(64), univ, far), far, api.OK)
	// Of a pair's second type just its own variable, and those behind, become others.
	becomes(t, along(never, sigma(univ, pair(v(math.MaxInt), far.Kids[1])), base), pair(along(never, univ, fst(base)), along(never, pair(v(math.MaxInt-1), far.Kids[1]), snd(base))), api.OK)
	// Of a function's types the dimensions that are bound ahead stay.
	becomes(t, along(never, pi(univ, far.Kids[1]), far.Kids[1]), lam(along(never, far.Kids[1], app(far.Kids[1], along(never, univ, v(0))))), api.OK)
	for _, x := range []api.Term{far, along(last, of(api.Susp, far), far), along(last, far, far), pi(far, far), comp(far, far, at(last, far)), along(last, plam(pi(far, far)), far), along(last, v(billion+1), far)} {
		nothing(t, x)
	}
}

// Where phi is never, a line of paths has no branch where it is: so what is carried may have a dimension more.
func TestNeverAsksForNothing(t *testing.T) {
	for i := range 24 {
		line := paths(univ, univ, univ)
		becomesUpTo(t, 22, i, along(never, line, loop(i)))
		becomesUpTo(t, 21, i, along(own, line, loop(i)))
		becomesUpTo(t, 22, i, along(row{pos(1 << i)}, line, univ))
		becomesUpTo(t, 22, i, along(never, paths(univ, loop(i), univ), univ))
		becomesUpTo(t, 21, i, along(never, paths(loop(i), univ, univ), univ))
	}
}

// becomesUpTo holds that Step tells something as long as a dimension is not above the last one that may be.
func becomesUpTo(t *testing.T, last, i int, x api.Term) {
	t.Helper()
	want := api.OK
	if i > last {
		want = api.ErrDims
	}
	if _, ok, e := Step(x); e != want || ok != (want == api.OK) {
		t.Errorf("Step(%s): %t, %d, not %d", short(x), ok, e, want)
	}
}

// Of each part its variables are lifted first, all of them.
func TestVariablesAreLiftedFirst(t *testing.T) {
	late := pair(loop(23), v(billion+1))
	for _, x := range []api.Term{
		along(never, pi(pair(loop(22), v(billion)), univ), univ), along(never, pi(univ, v(0)), pair(loop(23), v(billion))), along(never, sigma(univ, univ), late), along(never, paths(univ, univ, univ), late), along(never, paths(univ, late, univ), univ), along(never, paths(univ, univ, late), univ),
	} {
		becomes(t, x, api.Term{}, api.ErrTerm)
	}
	// A line that is lifted as a line is, node by node.
	becomes(t, along(never, paths(late, univ, univ), univ), api.Term{}, api.ErrDims)
	becomes(t, along(never, paths(pair(v(billion+1), loop(23)), univ, univ), univ), api.Term{}, api.ErrTerm)
}
