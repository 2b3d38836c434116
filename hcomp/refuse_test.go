package hcomp

import (
	"math"
	"slices"
	"testing"

	"hypercube/api"
	"hypercube/sample"
)

const billion = 1000000000

// args are the parts of a term: the type's, the first or the only one, and the second one; the ends of a type of paths; what is composed; two branches; and branches of Univ behind them, that never are.
type args struct {
	a, b, l, r, x, u, w api.Term
	f, g                row
	more                int
}

// sane tells parts that may be. Each has room for others, one beside the other; and the second type has its variable behind binders of both sorts.
func sane() args {
	part := func() api.Term { return of(api.MkGlue, univ) }
	return args{part(), of(api.MkGlue, pair(lam(v(1)), plam(plam(v(0))))), part(), part(), part(), part(), part(), row{neg(1)}, own, 0}
}

// system tells that of the branches.
func (x args) system() system {
	return append(system{at(x.f, x.u), at(x.g, x.w)}, slices.Repeat(system{at(never, univ)}, x.more)...)
}

func (x args) functions() api.Term { return comp(pi(x.a, x.b), x.x, x.system()...) }
func (x args) pairs() api.Term     { return comp(sigma(x.a, x.b), x.x, x.system()...) }
func (x args) paths() api.Term     { return comp(paths(x.a, x.l, x.r), x.x, x.system()...) }
func (x args) types() api.Term     { return comp(univ, x.x, x.system()...) }

// Those without a branch.
func (x args) bareFunctions() api.Term { return comp(pi(x.a, x.b), x.x) }
func (x args) barePairs() api.Term     { return comp(sigma(x.a, x.b), x.x) }
func (x args) barePaths() api.Term     { return comp(paths(x.a, x.l, x.r), x.x) }
func (x args) bareTypes() api.Term     { return comp(univ, x.x) }

// fault is something that is refused, and how it comes into the parts: ahead of what is there.
type fault struct {
	e    api.Errno
	into func(*args)
}

// place tells one of the parts.
type place func(*args) *api.Term

var (
	inA = place(func(x *args) *api.Term { return &x.a })
	inB = place(func(x *args) *api.Term { return &x.b })
	inL = place(func(x *args) *api.Term { return &x.l })
	inR = place(func(x *args) *api.Term { return &x.r })
	inX = place(func(x *args) *api.Term { return &x.x })
	inU = place(func(x *args) *api.Term { return &x.u })
	inW = place(func(x *args) *api.Term { return &x.w })
)

// has tells the fault that a part stands there, one deeper than the place.
func (p place) has(e api.Errno, bad api.Term) fault {
	return fault{e, func(x *args) {
		t := p(x)
		t.Sys = append(system{at(always, bad)}, t.Sys...)
	}}
}

// deep tells the fault that the place is so deep; great, that it has so many nodes more; variable and dimension, that it has such a one; wide, that it has a formula of many clauses with such a literal.
func (p place) deep(depth int) fault    { return p.has(api.ErrDeep, tall(depth-1)) }
func (p place) great(nodes int) fault   { return p.has(api.ErrSize, sample.Balanced(nodes)) }
func (p place) variable(n int) fault    { return p.has(api.ErrTerm, v(n)) }
func (p place) dimension(i int) fault   { return p.has(api.ErrDims, loop(i)) }
func (p place) wide(l api.Clause) fault { return p.has(api.ErrBig, wide(33, l)) }

// bound tells the fault that it has a dimension behind so many binders more.
func (p place) bound(i, binders int) fault {
	return p.has(api.ErrDims, times(binders, loop(i), plam))
}

// wide tells a formula of so many clauses with a literal of the dimension 0 or 1, of two further ones each.
func wide(clauses int, literal api.Clause) api.Term {
	return loops(sample.Least(sample.Met(shift(sample.Pairs(clauses), 0, 2), literal))...)
}

// tall tells a term that is so deep.
func tall(depth int) api.Term { return times(depth-1, univ, fst) }

// with tells the fault that two parts make together.
func (f fault) with(g fault) fault {
	return fault{f.e, func(x *args) {
		f.into(x)
		g.into(x)
	}}
}

// first and second tell the fault that a branch's face is some row; many, that there are so many branches more; often, that the second type has its variable more often.
func first(e api.Errno, f row) fault  { return fault{e, func(x *args) { x.f = f }} }
func second(e api.Errno, f row) fault { return fault{e, func(x *args) { x.g = f }} }
func many(n int) fault                { return fault{api.ErrSize, func(x *args) { x.more = n }} }
func often() fault                    { return inB.has(api.ErrSize, pair(v(0), pair(v(0), v(0)))) }

// face tells a face with a dimension.
func face(i int) row { return row{pos(1 << i)} }

// unformed tells what Formed refuses of the whole, in the order of depth, size and nodes; of places in the type, and then of others.
func unformed(in []place, others ...place) []fault {
	var deep, great, bad []fault
	for n, p := range append(in, others...) {
		depth := 199
		if n >= len(in) {
			depth = 200
		}
		deep = append(deep, p.deep(depth))
		great = append(great, p.great(20000))
		bad = append(bad, p.has(api.ErrTerm, api.Term{}), p.has(api.ErrTerm, lam(v(-1))), p.has(api.ErrTerm, loops(pos(1<<24))))
	}
	if len(others) > 1 {
		bad = append(bad, first(api.ErrTerm, row{both(2, 2)}), second(api.ErrTerm, row{both(1, 1), pos(2)}))
	}
	return slices.Concat(deep, great, bad)
}

// lifts tells what is refused of a part with a dimension more.
func (p place) lifts() []fault {
	return []fault{p.variable(billion + 1), p.dimension(23), p.bound(23, 1)}
}

// ofFunctions tells all that is refused of a composition of functions, in order.
func ofFunctions() []fault {
	return slices.Concat(
		unformed([]place{inA, inB}, inX, inU, inW),
		[]fault{inX.variable(billion), inU.variable(billion), inW.variable(billion), inX.deep(198), inU.deep(198), inW.deep(198), many(6700)},
	)
}

// met tells what is refused of a line where a filler takes it, from one face on: the lift, node by node, and then the formula that comes for its dimension.
func (p place) met(faced fault) []fault {
	far := p.bound(22, 22)
	return []fault{faced, p.dimension(22), p.variable(billion + 1), p.bound(23, 1), p.variable(billion + 1), far, p.wide(neg(1)), far}
}

// ofPairs tells the same of pairs.
func ofPairs() []fault {
	last := row{pos(sample.Last)}
	return slices.Concat(
		unformed([]place{inA, inB}, inX, inU, inW),
		// What fills the first parts.
		[]fault{inU.deep(199), inW.deep(199), many(10000)}, inA.lifts(), inX.lifts(), inU.met(first(api.ErrDims, last)), inW.met(second(api.ErrDims, last)),
		[]fault{inX.dimension(22), inX.bound(22, 1), inX.deep(199), inX.great(10000)},
		// B', with that in it.
		inB.lifts(), []fault{inA.great(4500).with(often()), inX.great(4500).with(often()), inU.great(4500).with(often()), inW.great(4500).with(often()), many(4995)},
		[]fault{inA.variable(billion), inX.variable(billion), inU.variable(billion), inW.variable(billion), inA.dimension(21), inX.dimension(21), inX.dimension(20), first(api.ErrDims, face(21)), inU.dimension(21), second(api.ErrDims, face(21)), inW.dimension(21), inA.deep(196), inX.deep(195), inU.deep(195), inW.deep(195)},
		// What is composed along that.
		[]fault{inA.dimension(19), inX.dimension(18), inB.dimension(21), first(api.ErrDims, face(19)), inU.dimension(19), inU.wide(pos(1)), inW.wide(pos(1)), inU.bound(19, 19), inW.bound(19, 19)},
		[]fault{inA.deep(194), inX.deep(193), inU.deep(193), inW.deep(193), inA.great(5000), inX.great(3000), inB.great(6000), inU.great(5000), inW.great(5000), many(500)},
		// The whole.
		[]fault{inA.deep(193), inX.deep(192), inU.deep(192), inW.deep(192), inB.deep(198)},
	)
}

// ofPaths tells the same of paths.
func ofPaths() []fault {
	last := row{pos(sample.Last)}
	line := func(p place, faced fault) []fault {
		return []fault{faced, p.dimension(23), p.variable(billion + 1), p.bound(23, 1), p.variable(billion + 1)}
	}
	return slices.Concat(
		unformed([]place{inA, inL, inR}, inX, inU, inW), inX.lifts(), inL.lifts(), inR.lifts(),
		line(inU, first(api.ErrDims, last)), []fault{inL.dimension(22), inL.bound(22, 1), inR.dimension(22), inR.bound(22, 1)}, line(inW, second(api.ErrDims, last)),
		[]fault{inX.deep(198), inL.deep(198), inR.deep(198), inU.deep(198), inW.deep(198), inL.great(5000), inR.great(5000), inL.great(2500).with(inR.great(2500)), many(3400)},
	)
}

// ofTypes tells the same of types.
func ofTypes() []fault {
	return slices.Concat(
		unformed(nil, inX, inU, inW), inX.lifts(),
		// The fibers.
		[]fault{inX.variable(billion), inU.variable(billion - 1), inX.variable(billion - 1), inX.variable(billion - 2), inX.dimension(22), inX.bound(22, 1), inX.deep(199)},
		// That they have one point alone.
		[]fault{inU.variable(billion - 2), inX.variable(billion - 3), inU.variable(billion - 3), inX.variable(billion - 4), inU.dimension(23), inU.bound(23, 1), inX.dimension(21), inX.bound(21, 1), inU.deep(197), inX.deep(196), inU.great(6700), inX.great(6700)},
		// The type of equivalences; and that of the other branch.
		[]fault{inU.deep(195), inX.deep(194), inU.great(5000), inX.great(4000)},
		[]fault{inW.variable(billion - 1), inW.variable(billion - 2), inW.variable(billion - 3), inW.dimension(23), inW.bound(23, 1), inW.deep(197), inW.great(6700), inW.deep(195), inW.great(5000)},
		// The whole.
		[]fault{inU.deep(193), inX.deep(192), inW.deep(193), inX.great(2000), inU.great(2500).with(inW.great(2500)), many(500)},
	)
}

// The same where there is no branch: nothing is refused of parts that would stand in branches alone.
func ofBareFunctions() []fault {
	return append(unformed([]place{inA, inB}, inX), inX.variable(billion), inX.deep(198))
}

func ofBarePairs() []fault {
	return slices.Concat(
		unformed([]place{inA, inB}, inX), inA.lifts(), inX.lifts(), []fault{inX.dimension(22), inX.bound(22, 1), inX.deep(199), inX.great(10000)},
		inB.lifts(), []fault{inA.great(4500).with(often()), inX.great(4500).with(often()), inA.variable(billion), inX.variable(billion), inA.dimension(21), inX.dimension(21), inX.dimension(20), inA.deep(196), inX.deep(195)},
		[]fault{inA.deep(194), inX.deep(193), inA.great(5000), inX.great(3000), inB.great(10000), inA.deep(193), inX.deep(192), inB.deep(198)},
	)
}

func ofBarePaths() []fault {
	return slices.Concat(
		unformed([]place{inA, inL, inR}, inX), inX.lifts(), inL.lifts(), inR.lifts(),
		[]fault{inL.dimension(22), inL.bound(22, 1), inR.dimension(22), inR.bound(22, 1), inX.deep(198), inL.deep(198), inR.deep(198), inL.great(10000), inR.great(10000)},
	)
}

// shape is a type's, with what is refused of a composition in it, in order.
type shape struct {
	whole func(args) api.Term
	all   []fault
}

func shapes() []shape {
	return []shape{
		{args.functions, ofFunctions()}, {args.pairs, ofPairs()}, {args.paths, ofPaths()}, {args.types, ofTypes()},
		{args.bareFunctions, ofBareFunctions()}, {args.barePairs, ofBarePairs()}, {args.barePaths, ofBarePaths()}, {args.bareTypes, unformed(nil, inX)},
	}
}

// Each of all faults is told; of two the first: each is held against those next behind it, and against many of those further on.
func TestWhichIsToldFirst(t *testing.T) {
	for k, x := range shapes() {
		if _, ok, e := Step(x.whole(sane())); !ok || e != api.OK {
			t.Errorf("the shape %d without a fault: %t, %d", k, ok, e)
		}
		for n, one := range x.all {
			alone := sane()
			one.into(&alone)
			becomes(t, x.whole(alone), api.Term{}, one.e)
			if t.Failed() {
				t.Fatalf("the shape %d, of the fault %d", k, n)
			}
			for m, other := range x.all[n+1:] {
				if m > 9 && (n+m)%4 > 0 {
					continue
				}
				two := sane()
				other.into(&two)
				one.into(&two)
				becomes(t, x.whole(two), api.Term{}, one.e)
				if t.Failed() {
					t.Fatalf("the shape %d, of the faults %d and %d", k, n, n+1+m)
				}
			}
		}
	}
}

// What is no term is refused, whether it would become anything or not, and wherever it stands: in what goes, too.
func TestNoTerms(t *testing.T) {
	for want, l := range map[api.Errno][]api.Term{
		api.ErrTerm: {{}, v(-1), v(math.MinInt), of(api.Lam), fst(pair(univ, of(api.Univ, univ))), {Kind: 29}, {Kind: -1}, {Kind: math.MinInt}, loops(pos(1 << 24)), loops(pos(1), pos(3)), along(row{both(1, 1)}, circle, base), grown(univ, never, univ), {Kind: api.Const}, {Kind: api.Const, Name: "1"}, {Kind: api.Univ, N: 1}, with(univ, always), having(api.Glue, univ, at(always, univ)), of(api.Glue)},
		api.ErrDeep: {tall(201), times(199, pair(univ, univ), fst), times(1000, api.Term{}, fst), pair(sample.Balanced(20001), tall(200))},
		api.ErrSize: {sample.Balanced(20001), sample.Bushy(20001), pair(api.Term{}, sample.Balanced(19999))},
	} {
		for _, bad := range l {
			becomes(t, bad, api.Term{}, want)
			for _, good := range []api.Term{univ, comp(univ, circle)} {
				inEachPlace(t, good, bad, want)
			}
		}
	}
}

// inEachPlace holds that a bad part is told in each place of each kind, the others of which have a term, and of what would become something.
func inEachPlace(t *testing.T, good, bad api.Term, want api.Errno) {
	t.Helper()
	for kind := api.Var; kind <= api.The; kind++ {
		_, rows := sample.Places(kind, func(int) row { return never }, func(int) api.Term { return good })
		for place, isRow := range rows {
			x, _ := sample.Places(kind, func(int) row { return never }, func(k int) api.Term {
				if k == place {
					return bad
				}
				return good
			})
			if !isRow {
				for _, y := range []api.Term{x, comp(circle, x), comp(univ, good, at(never, x)), comp(pi(x, good), good), comp(sigma(good, x), good), comp(paths(good, good, x), good), comp(having(api.Glue, good, at(never, good, x)), good), fst(comp(univ, x))} {
					becomes(t, y, api.Term{}, want)
				}
			}
		}
	}
}

// types tells one of each shape, and such as are none.
func types() []api.Term {
	return []api.Term{univ, pi(univ, univ), sigma(univ, univ), paths(univ, univ, univ), having(api.Glue, univ), circle, of(api.Susp, univ), v(0)}
}

func TestWrongRows(t *testing.T) {
	for _, bad := range sample.WrongFaces() {
		branched := comp(univ, univ, at(always, univ), at(bad, univ))
		for _, in := range types() {
			becomes(t, comp(in, univ, at(bad, univ)), api.Term{}, api.ErrTerm)
			becomes(t, comp(in, univ, at(always, univ), at(bad, univ), at(never, univ)), api.Term{}, api.ErrTerm)
			becomes(t, comp(in, branched), api.Term{}, api.ErrTerm)
			becomes(t, comp(in, univ, at(never, along(bad, univ, univ))), api.Term{}, api.ErrTerm)
		}
		becomes(t, comp(pi(branched, univ), univ), api.Term{}, api.ErrTerm)
		becomes(t, comp(having(api.Glue, univ, at(bad, univ, univ)), univ), api.Term{}, api.ErrTerm)
	}
	for _, bad := range sample.WrongFormulas() {
		becomes(t, comp(univ, loops(bad...)), api.Term{}, api.ErrTerm)
		becomes(t, comp(univ, univ, at(own, loops(bad...))), api.Term{}, api.ErrTerm)
		becomes(t, comp(pi(loops(bad...), univ), univ), api.Term{}, api.ErrTerm)
	}
}

func TestWrongForms(t *testing.T) {
	for _, in := range types() {
		x := comp(in, univ, at(own, univ))
		more, less, none, named, numbered, rowed := x, x, x, x, x, x
		more.Kids = append(slices.Clone(x.Kids), univ)
		less.Kids, none.Kids, named.Name, numbered.N, rowed.R = x.Kids[:1], nil, "c", 1, always
		wrong := []api.Term{more, less, none, named, numbered, rowed, grown(x, never), grown(x, own, univ, univ)}
		moreKids, row, name := in, with(in, always), in
		moreKids.Kids, name.Name = append(slices.Clone(in.Kids), univ), "c"
		bad := []api.Term{moreKids, row, name}
		if len(in.Kids) > 0 {
			fewer := in
			fewer.Kids = in.Kids[1:]
			bad = append(bad, fewer)
		}
		for _, y := range bad {
			wrong = append(wrong, comp(y, univ), comp(y, univ, at(own, univ)))
		}
		for _, y := range wrong {
			becomes(t, y, api.Term{}, api.ErrTerm)
		}
	}
}

// What stays as it is, or goes, is not refused for what a lift would refuse; what is none of these is nothing, whatever would be refused of it.
func TestWhatIsNotRefused(t *testing.T) {
	far := pair(v(math.MaxInt), pair(loop(23), times(22, loop(22), plam)))
	last := row{pos(sample.Last)}
	becomes(t, comp(univ, far), having(api.Glue, far), api.OK)
	becomes(t, comp(pi(far, far), univ), lam(comp(far, app(univ, v(0)))), api.OK)
	// Dimensions stay behind a binder of a variable, variables behind one of a dimension.
	steady := pair(loop(23), times(22, loop(22), plam))
	becomes(t, comp(pi(far, far), steady, at(last, steady)), lam(comp(far, app(steady, v(0)), at(last, app(steady, v(0))))), api.OK)
	becomes(t, comp(paths(far, univ, univ), v(billion)), plam(comp(far, point(own, v(billion), univ, univ), at(row{neg(1)}, univ), at(own, univ))), api.OK)
	for _, x := range []api.Term{far, comp(of(api.Susp, far), far, at(last, far)), comp(far, far, at(last, far)), comp(circle, far, at(last, far)), pi(far, far), along(last, paths(far, far, far), far), comp(v(billion+1), far)} {
		nothing(t, x)
	}
}

// Lines of functions and types keep their faces; those of pairs and paths are faced behind a binder more.
func TestFacesAtTheLastDimension(t *testing.T) {
	last := row{pos(sample.Last)}
	becomes(t, comp(pi(univ, univ), univ, at(last, univ)), lam(comp(univ, app(univ, v(0)), at(last, app(univ, v(0))))), api.OK)
	for _, in := range []api.Term{univ, having(api.Glue, univ)} {
		if got, ok, e := Step(comp(in, univ, at(last, univ))); !ok || e != api.OK || got.Kind == api.HComp {
			t.Errorf("in the kind %d: %t, %d", in.Kind, ok, e)
		}
	}
	for _, in := range []api.Term{sigma(univ, univ), paths(univ, univ, univ)} {
		for i := range api.MaxDims {
			want, limit := api.OK, 22
			if in.Kind == api.Sigma {
				limit = 20
			}
			if i > limit {
				want = api.ErrDims
			}
			x := comp(in, univ, at(row{neg(1 << i)}, univ))
			if in.Kind == api.Sigma {
				x.Kids[0] = sigma(univ, v(0))
			}
			if _, ok, e := Step(x); ok != (want == api.OK) || e != want {
				t.Errorf("in the kind %d, a face with %d: %t, %d, not %d", in.Kind, i, ok, e, want)
			}
		}
	}
}

// Of each part its variables are lifted first, all of them; but a line that is lifted as a line is, node by node.
func TestVariablesAreLiftedFirst(t *testing.T) {
	late := pair(loop(23), v(billion+1))
	early := pair(v(billion+1), loop(23))
	for _, x := range []api.Term{comp(pi(univ, univ), pair(loop(23), v(billion))), comp(sigma(late, univ), univ), comp(sigma(univ, univ), late), comp(sigma(univ, late), univ), comp(paths(univ, late, univ), univ), comp(paths(univ, univ, univ), late), comp(univ, late, at(own, univ)), comp(paths(univ, univ, univ), univ, at(own, early)), comp(sigma(univ, univ), univ, at(own, early))} {
		becomes(t, x, api.Term{}, api.ErrTerm)
	}
	for _, x := range []api.Term{comp(paths(univ, univ, univ), univ, at(own, late)), comp(sigma(univ, univ), univ, at(own, late))} {
		becomes(t, x, api.Term{}, api.ErrDims)
	}
}
