package glue

import (
	"math"
	"slices"
	"testing"

	"hypercube/api"
	"hypercube/sample"
)

// args are the parts of a term: the type that is glued, the two branches' types and equivalences, what is composed or carried, what the composition's branches have, and all faces. A line's first branch stays, its second one is there at its end alone.
type args struct {
	a, t1, e1, t2, e2, b, u1, u2 api.Term
	f1, f2, phi                  row
	s1, s2                       row
	bare                         bool // the composition has no branch; phi is never
}

// sane tells parts that may be. Each has room for others, one beside the other.
func sane() args {
	part := func() api.Term { return of(api.MkGlue, univ) }
	return args{part(), part(), part(), part(), part(), part(), part(), part(), row{pos(2)}, row{pos(1)}, row{neg(1)}, row{pos(1)}, row{neg(1)}, false}
}

// bare tells such without what only the composition's branches, or phi, ask for.
func bare() args {
	x := sane()
	x.bare = true
	return x
}

func (x args) glued() api.Term { return glued(x.a, at(x.f1, x.t1, x.e1), at(x.f2, x.t2, x.e2)) }

func (x args) merged() api.Term {
	if x.bare {
		return comp(x.glued(), x.b)
	}
	return comp(x.glued(), x.b, at(x.s1, x.u1), at(x.s2, x.u2))
}

func (x args) carried() api.Term {
	if x.bare {
		return along(never, x.glued(), x.b)
	}
	return along(x.phi, x.glued(), x.b)
}

// fault is something that is refused, and how it comes into the parts: ahead of what is there.
type fault struct {
	e    api.Errno
	into func(*args)
}

// place tells one of the parts.
type place func(*args) *api.Term

var (
	inA  = place(func(x *args) *api.Term { return &x.a })
	inT1 = place(func(x *args) *api.Term { return &x.t1 })
	inE1 = place(func(x *args) *api.Term { return &x.e1 })
	inT2 = place(func(x *args) *api.Term { return &x.t2 })
	inE2 = place(func(x *args) *api.Term { return &x.e2 })
	inB  = place(func(x *args) *api.Term { return &x.b })
	inU1 = place(func(x *args) *api.Term { return &x.u1 })
	inU2 = place(func(x *args) *api.Term { return &x.u2 })
)

// has tells the fault that a part stands there, one deeper than the place.
func (p place) has(e api.Errno, bad api.Term) fault {
	return fault{e, func(x *args) {
		t := p(x)
		t.Sys = append(system{at(always, bad)}, t.Sys...)
	}}
}

// deep tells the fault that the place is so deep; great, that it has so many nodes more; variable and dimension, that it has such a one.
func (p place) deep(depth int) fault    { return p.has(api.ErrDeep, tall(depth-1)) }
func (p place) great(nodes int) fault   { return p.has(api.ErrSize, sample.Balanced(nodes)) }
func (p place) variable(n int) fault    { return p.has(api.ErrTerm, v(n)) }
func (p place) dimension(i int) fault   { return p.has(api.ErrDims, loop(i)) }
func (p place) wide(l api.Clause) fault { return p.has(api.ErrBig, wide(33, l)) }

// bound tells the fault that it has a dimension behind so many binders more.
func (p place) bound(i, binders int) fault {
	return p.has(api.ErrDims, times(binders, loop(i), plam))
}

// with tells the fault that two parts make together.
func (f fault) with(g fault) fault {
	return fault{f.e, func(x *args) {
		f.into(x)
		g.into(x)
	}}
}

// faced tells the fault that a face is some row.
func faced(e api.Errno, f row, which func(*args) *row) fault {
	return fault{e, func(x *args) { *which(x) = f }}
}

func ofPhi(x *args) *row { return &x.phi }
func ofF1(x *args) *row  { return &x.f1 }
func ofF2(x *args) *row  { return &x.f2 }
func ofS1(x *args) *row  { return &x.s1 }
func ofS2(x *args) *row  { return &x.s2 }

// unformed tells what Formed refuses of the whole, in the order of depth, size and nodes; the places are so deep in it.
func unformed(kids, parts []place) []fault {
	var deep, great, bad []fault
	for n, l := range [][]place{kids, parts} {
		for _, p := range l {
			deep = append(deep, p.deep(200-n))
			great = append(great, p.great(19990))
			bad = append(bad, p.has(api.ErrTerm, api.Term{}), p.has(api.ErrTerm, lam(v(-1))), p.has(api.ErrTerm, loops(pos(1<<24))))
		}
	}
	return slices.Concat(deep, great, bad)
}

// within tells what is refused of a line two binders further in, where a formula comes for its dimension that makes literals of one sort too many.
func (p place) within(literal api.Clause) []fault {
	return []fault{p.dimension(22), p.variable(billion + 1), p.bound(22, 22), p.wide(literal), p.bound(22, 22)}
}

// ofMerge tells all that is refused of a composition in a glued type, in order.
func ofMerge() []fault {
	top := row{pos(sample.Last)}
	ofUnglue := []fault{inE1.variable(billion + 1), inE2.variable(billion + 1), faced(api.ErrDims, top, ofF1), inE1.dimension(23), inE1.bound(23, 2), faced(api.ErrDims, top, ofF2), inE2.dimension(23)}
	ofFill := slices.Concat(
		[]fault{inT1.variable(billion + 1), inT1.dimension(23), inB.variable(billion + 1), inB.dimension(23), faced(api.ErrDims, top, ofS1)}, inU1.within(neg(1)), []fault{faced(api.ErrDims, top, ofS2)}, inU2.within(neg(1)), []fault{inB.dimension(22), inB.bound(22, 1), inB.great(9997)},
	)
	return slices.Concat(
		unformed([]place{inB, inU1, inU2}, []place{inA, inT1, inE1, inT2, inE2}), ofUnglue, ofFill, []fault{inT2.variable(billion + 1), inT2.dimension(23)},
		// What is left is that the whole is too deep, or too great.
		[]fault{inT1.deep(197), inE1.deep(197), inT2.deep(198), inE2.deep(198), inB.deep(197), inU1.deep(197), inU2.deep(199), inE1.great(5500), inB.great(3400), inU1.great(4500), inT2.great(10500)},
	)
}

// ofBareMerge tells the same, where the composition has no branch: so nothing unglues further in, and of each branch the function comes ahead of the filler.
func ofBareMerge() []fault {
	return slices.Concat(
		unformed([]place{inB}, []place{inA, inT1, inE1, inT2, inE2}),
		[]fault{inE1.variable(billion + 1), inE1.dimension(23), inE1.bound(23, 2), inT1.variable(billion + 1), inT1.dimension(23), inB.variable(billion + 1), inB.dimension(23), inB.dimension(22), inB.great(9997)},
		[]fault{inE2.variable(billion + 1), inE2.dimension(23), inT2.variable(billion + 1), inT2.dimension(23)},
		[]fault{inT1.deep(197), inE1.deep(197), inT2.deep(198), inE2.deep(198), inB.deep(197), inE1.great(9990), inB.great(3400), inT2.great(10500)},
	)
}

// ofCarry tells all that is refused of what is carried along a line of glued types, in order.
func ofCarry() []fault {
	return slices.Concat(
		unformed([]place{inB}, []place{inA, inT1, inE1, inT2, inE2}), []fault{faced(api.ErrTerm, row{both(2, 2)}, ofPhi)},
		// a0', and what is carried along the branch that stays.
		[]fault{inB.variable(billion + 1), inE1.variable(billion + 1), inB.dimension(23), inB.bound(23, 1)},
		[]fault{faced(api.ErrDims, row{pos(sample.Last)}, ofPhi), faced(api.ErrBig, sample.Pairs(64), ofPhi)}, inT1.within(neg(1)),
		// a1: first what is handed in for it.
		[]fault{inE1.deep(198), inT1.deep(198), inB.deep(198), inB.great(9995)}, inA.within(pos(1)), []fault{inE1.deep(197), inT1.deep(197), inB.deep(197), inB.great(6800), inA.great(5000)},
		// The first fiber and its center.
		[]fault{inA.variable(billion), inB.variable(billion), inE1.variable(billion), inT1.variable(billion), inB.deep(195), inA.deep(197), inE1.deep(195), inT1.deep(195), inA.great(4400)},
		[]fault{faced(api.ErrDims, row{pos(1 << 22)}, ofPhi), inB.dimension(22), inE1.dimension(23)},
		[]fault{faced(api.ErrDims, row{pos(1 << 21)}, ofPhi), inB.dimension(21), inA.dimension(21), inE1.dimension(22), inT1.dimension(21)},
		// The second fiber.
		[]fault{inE2.variable(billion + 1), inE2.variable(billion), inE2.deep(197), inE2.great(15000).with(inA.great(1000)), inT2.great(15000).with(inA.great(1000))},
		// The points: the first one, then the second.
		[]fault{inB.deep(192), inA.deep(194), inE1.deep(192), inT1.deep(192), inB.great(700), inA.great(500)},
		[]fault{faced(api.ErrDims, row{pos(1 << 20)}, ofPhi), inB.dimension(20), inA.dimension(20), inE1.dimension(21), inT1.dimension(20)},
		[]fault{inE2.deep(195), inE2.great(3500), inT2.variable(billion + 1), inE2.dimension(23)},
		// The whole.
		[]fault{inT2.deep(194), inE2.deep(190), inB.deep(187), inA.deep(189), inE1.deep(187), inT1.deep(187), inB.great(150), inT2.great(6500), inE2.great(1500), inA.great(150)},
	)
}

// ofBareCarry tells the same, where phi is never.
func ofBareCarry() []fault {
	return slices.Concat(
		unformed([]place{inB}, []place{inA, inT1, inE1, inT2, inE2}),
		// a0 is lifted no more; what is carried along the branch that stays is.
		inT1.within(neg(1)), []fault{inB.variable(billion + 1), inB.dimension(23), inB.bound(23, 1)}, []fault{inE1.deep(198), inT1.deep(198), inB.deep(198)}, inA.within(pos(1)), []fault{inE1.deep(197), inT1.deep(197), inB.deep(197), inB.great(9990), inA.great(6700)},
		[]fault{inA.variable(billion), inE1.variable(billion + 1), inB.variable(billion), inE1.variable(billion), inT1.variable(billion), inB.deep(195), inA.deep(197), inE1.deep(195), inT1.deep(195), inA.great(5000)},
		[]fault{inB.dimension(22), inE1.dimension(23), inB.dimension(21), inA.dimension(21), inE1.dimension(22), inT1.dimension(21)},
		[]fault{inE2.variable(billion + 1), inE2.deep(197), inE2.great(15000).with(inA.great(1300)), inT2.great(15000).with(inA.great(1300)), inB.great(1700), inT2.variable(billion + 1), inE2.dimension(23)},
		[]fault{inT2.deep(194), inE2.deep(190), inB.deep(187), inA.deep(189), inE1.deep(187), inT1.deep(187), inB.great(400), inT2.great(6500)},
	)
}

// ends tells parts of a line, both branches of which are there at its end alone; and phi is never.
func ends() args {
	x := bare()
	x.f1, x.f2 = own, own
	return x
}

// ofEnds tells the same of such a line: no point of the fibers is known, so nothing is lifted by a dimension ahead of the answer.
func ofEnds() []fault {
	return slices.Concat(
		unformed([]place{inB}, []place{inA, inT1, inE1, inT2, inE2}),
		[]fault{inB.deep(198), inA.great(9998), inA.variable(billion), inB.variable(billion), inE1.variable(billion), inE1.variable(billion + 1), inA.deep(197), inB.deep(196), inE1.deep(197), inA.great(6700)},
		[]fault{inE2.variable(billion), inE2.deep(197), inE2.great(16000).with(inA.great(1500))},
		[]fault{inB.deep(195), inA.deep(196), inE1.deep(196), inB.great(9990), inT1.variable(billion + 1), inB.dimension(23), inB.bound(23, 1), inA.dimension(23)},
		[]fault{inE2.deep(196), inE2.great(9990), inT2.variable(billion + 1)},
		[]fault{inT1.deep(194), inT2.deep(194), inE1.deep(191), inE2.deep(191), inA.deep(191), inB.deep(190), inB.great(1700), inT2.great(6700)},
	)
}

// Each of all faults is told; of two the first: each is held against those next behind it, and against many of those further on.
func TestWhichIsToldFirst(t *testing.T) {
	for _, x := range []struct {
		name  string
		parts func() args
		whole func(args) api.Term
		all   []fault
	}{
		{"Merge", sane, args.merged, ofMerge()}, {"Merge", bare, args.merged, ofBareMerge()}, {"Carry", sane, args.carried, ofCarry()}, {"Carry", bare, args.carried, ofBareCarry()}, {"Carry", ends, args.carried, ofEnds()},
	} {
		if _, ok, e := calls()[x.name](x.whole(x.parts())); !ok || e != api.OK {
			t.Errorf("%s without a fault: %t, %d", x.name, ok, e)
		}
		for n, first := range x.all {
			alone := x.parts()
			first.into(&alone)
			becomes(t, x.name, x.whole(alone), api.Term{}, first.e)
			if t.Failed() {
				t.Fatalf("%s of the fault %d", x.name, n)
			}
			for k, second := range x.all[n+1:] {
				if k > 7 && (n+k)%4 > 0 {
					continue
				}
				two := x.parts()
				second.into(&two)
				first.into(&two)
				becomes(t, x.name, x.whole(two), api.Term{}, first.e)
				if t.Failed() {
					t.Fatalf("%s of the faults %d and %d", x.name, n, n+1+k)
				}
			}
		}
	}
}

// What is no term is refused, whether it would become anything or not, and wherever it stands: in what goes, too.
func TestNoTerms(t *testing.T) {
	for want, l := range map[api.Errno][]api.Term{
		api.ErrTerm: {{}, v(-1), v(math.MinInt), of(api.Lam), fst(pair(univ, of(api.Univ, univ))), {Kind: 29}, {Kind: -1}, {Kind: math.MinInt}, loops(pos(1 << 24)), loops(pos(1), pos(3)), along(row{both(1, 1)}, glued(univ), univ), grown(univ, never, univ), {Kind: api.Const}, {Kind: api.Const, Name: "1"}, {Kind: api.Univ, N: 1}, with(univ, always), glued(univ, at(always, univ)), of(api.Glue)},
		api.ErrDeep: {tall(201), times(199, pair(univ, univ), fst), times(1000, api.Term{}, fst), pair(sample.Balanced(20001), tall(200))},
		api.ErrSize: {sample.Balanced(20001), sample.Bushy(20001), pair(api.Term{}, sample.Balanced(19999))},
	} {
		for _, bad := range l {
			for name := range calls() {
				becomes(t, name, bad, api.Term{}, want)
			}
			for _, good := range []api.Term{univ, comp(univ, univ), glued(univ)} {
				inEachPlace(t, never, good, bad, want)
			}
		}
	}
}

// inEachPlace holds that a bad part is told in each place of each kind, the others of which have a row and a term; and within a composition in a glued type, or what is carried along such, that would become something.
func inEachPlace(t *testing.T, r row, good, bad api.Term, want api.Errno) {
	t.Helper()
	for kind := api.Var; kind <= api.The; kind++ {
		_, rows := sample.Places(kind, func(int) row { return r }, func(int) api.Term { return good })
		for place, isRow := range rows {
			x, _ := sample.Places(kind, func(int) row { return r }, func(k int) api.Term {
				if k == place {
					return bad
				}
				return good
			})
			for name := range calls() {
				if !isRow {
					becomes(t, name, x, api.Term{}, want)
					becomes(t, name, comp(glued(good), x), api.Term{}, want)
					becomes(t, name, along(never, glued(good), x), api.Term{}, want)
					becomes(t, name, along(never, glued(good, at(never, good, x)), good), api.Term{}, want)
				}
			}
		}
	}
}

func TestWrongRows(t *testing.T) {
	for _, bad := range sample.WrongFaces() {
		for _, g := range []api.Term{glued(univ, at(bad, univ, univ)), glued(univ, at(always, univ, univ), at(bad, univ, univ)), glued(comp(univ, univ, at(bad, univ)))} {
			for name := range calls() {
				becomes(t, name, comp(g, univ), api.Term{}, api.ErrTerm)
				becomes(t, name, along(never, g, univ), api.Term{}, api.ErrTerm)
			}
		}
		for name := range calls() {
			becomes(t, name, along(bad, glued(univ), univ), api.Term{}, api.ErrTerm)
			becomes(t, name, comp(glued(univ), univ, at(bad, univ)), api.Term{}, api.ErrTerm)
			becomes(t, name, comp(glued(univ), univ, at(always, univ), at(bad, univ)), api.Term{}, api.ErrTerm)
		}
	}
}

func TestWrongForms(t *testing.T) {
	wrong := []api.Term{}
	for _, x := range []api.Term{comp(glued(univ), univ), comp(glued(univ, at(always, univ, univ)), univ, at(always, univ)), along(never, glued(univ), univ), along(always, glued(univ, at(always, univ, univ)), univ)} {
		more, less, none, named, numbered := x, x, x, x, x
		more.Kids = append(slices.Clone(x.Kids), univ)
		less.Kids, none.Kids, named.Name, numbered.N = x.Kids[:1], nil, "c", 1
		wrong = append(wrong, more, less, none, named, numbered, grown(x, never, univ, univ), grown(x, never))
		if x.Kind == api.HComp {
			wrong = append(wrong, with(x, always))
		} else {
			wrong = append(wrong, grown(x, never, univ))
		}
		for _, g := range []api.Term{of(api.Glue), of(api.Glue, univ, univ), with(glued(univ), always), {Kind: api.Glue, Name: "c", Kids: []api.Term{univ}}, {Kind: api.Glue, N: 1, Kids: []api.Term{univ}}, glued(univ, at(always)), glued(univ, at(always, univ)), glued(univ, at(always, univ, univ, univ))} {
			other := x
			other.Kids = []api.Term{g, univ}
			wrong = append(wrong, other)
		}
	}
	for _, bad := range wrong {
		for name := range calls() {
			becomes(t, name, bad, api.Term{}, api.ErrTerm)
		}
	}
}

// What goes behind no binder is not refused; what is none of these is nothing, whatever would be refused of it.
func TestWhatIsNotRefused(t *testing.T) {
	far := pair(v(math.MaxInt), pair(loop(23), times(22, loop(22), plam)))
	becomes(t, "Merge", comp(glued(far), far), madeGlued(comp(far, unglueOf(far))), api.OK)
	last := row{pos(sample.Last)}
	becomes(t, "Merge", comp(glued(far), far, at(last, far)), madeGlued(comp(far, unglueOf(far), at(last, unglueOf(far)))), api.OK)
	becomes(t, "Merge", comp(glued(far, at(last, univ, univ)), univ), madeGlued(comp(far, unglueOf(univ, at(last, univ)), at(last, app(fst(univ), comp(univ, univ, at(row{neg(1)}, univ))))), at(last, comp(univ, univ))), api.OK)
	end := pair(v(math.MaxInt), pair(loop(22), times(22, loops(always...), plam)))
	becomes(t, "Carry", along(never, glued(far), far), madeGlued(comp(end, carriedTo(end, far, unglueOf(far)))), api.OK)
	// A branch that is there at the beginning alone is unglued there, and nothing else.
	first := pair(v(math.MaxInt), pair(loop(22), times(22, loops(), plam)))
	becomes(t, "Carry", along(never, glued(far, at(row{both(sample.Last, 1)}, far, far)), far), madeGlued(comp(end, carriedTo(end, far, unglueOf(far, at(row{pos(1 << 22)}, first))))), api.OK)
	for _, x := range []api.Term{far, comp(far, glued(far), at(last, far)), along(last, plam(glued(far)), far), along(last, far, glued(far)), glued(far, at(last, far, far)), unglueOf(far, at(last, far))} {
		nothing(t, x)
	}
}

// Where phi is never, what would stand where it is isn't made: so what is carried has no dimension too many.
func TestNeverAsksForNothing(t *testing.T) {
	for i := range 24 {
		becomesUpTo(t, 23, i, along(never, glued(univ), loop(i)))
		// It stands behind a binder in a1, which is lifted by one.
		becomesUpTo(t, 21, i, along(own, glued(univ), loop(i)))
		// A branch at the line's end lifts a1 by one, for its point; by three, where another point is known.
		becomesUpTo(t, 22, i, along(never, glued(univ, at(own, univ, univ)), loop(i)))
		becomesUpTo(t, 19, i, along(own, glued(univ, at(own, univ, univ)), loop(i)))
	}
}

// becomesUpTo holds that Carry tells something as long as a dimension is not above the last one that may be.
func becomesUpTo(t *testing.T, last, i int, x api.Term) {
	t.Helper()
	want := api.OK
	if i > last {
		want = api.ErrDims
	}
	if _, ok, e := Carry(x); e != want || ok != (want == api.OK) {
		t.Errorf("Carry(%s): %t, %d, not %d", short(x), ok, e, want)
	}
}

// What unglues goes further in as a whole: of its branches the variables are lifted first, all of them.
func TestVariablesAreLiftedFirst(t *testing.T) {
	bad := pair(loop(23), v(billion+1))
	for _, x := range []api.Term{
		comp(glued(univ, at(always, univ, bad)), univ, at(always, univ)), comp(glued(univ, at(row{pos(sample.Last)}, univ, univ), at(always, univ, bad)), univ, at(always, univ)), comp(glued(univ, at(always, bad, univ)), univ), comp(glued(univ, at(always, univ, univ)), bad),
	} {
		becomes(t, "Merge", x, api.Term{}, api.ErrTerm)
	}
	for _, x := range []api.Term{along(always, glued(univ), bad), along(always, glued(univ, at(always, univ, bad)), loop(23)), along(always, glued(univ), pair(loop(23), bad))} {
		becomes(t, "Carry", x, api.Term{}, api.ErrTerm)
	}
}

// A filler may be too great, even if that of the branch ahead is not: that is told ahead of what is refused of branches behind.
func TestFillersOfManyTypes(t *testing.T) {
	for _, x := range []struct {
		t, b int
		want api.Errno
	}{{8000, 5999, api.ErrTerm}, {8001, 5999, api.ErrSize}, {8000, 6000, api.ErrSize}} {
		g := glued(univ, at(always, univ, univ), at(always, sample.Balanced(x.t), univ), at(always, v(billion+1), univ))
		becomes(t, "Merge", comp(g, sample.Balanced(x.b), at(always, univ)), api.Term{}, x.want)
	}
}
