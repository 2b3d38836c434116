package hit

import (
	"math"
	"slices"
	"testing"

	"hypercube/api"
	"hypercube/sample"
)

const billion = 1000000000

// wide tells a formula of so many clauses with a literal of the dimension 0, of two further ones each.
func wide(clauses int, literal api.Clause) api.Term {
	return loops(sample.Least(sample.Met(shift(sample.Pairs(clauses), 0, 1), literal))...)
}

// tall tells a term that is so deep.
func tall(depth int) api.Term { return times(depth-1, univ, fst) }

// args are the parts of a term: what is made (or the line, without its Susp), what stands for the constructors, a composition, a face.
type args struct {
	p, b, m, l, t, a api.Term
	sys              system
	phi              row
}

// sound tells parts that may be. Each has room for others, one beside the other; what is made hangs on the variable.
func sound() args {
	part := func() api.Term { return of(api.MkGlue, univ) }
	return args{grown(part(), row{pos(1)}, v(0)), part(), part(), part(), part(), part(), system{at(row{pos(1)}, part()), at(row{neg(1)}, part())}, row{neg(1)}}
}

func (x args) circle() api.Term { return of(api.CircleEl, x.p, x.b, x.l, comp(x.t, x.a, x.sys...)) }
func (x args) susp() api.Term {
	return of(api.SuspEl, x.p, x.b, x.m, x.l, comp(x.t, x.a, x.sys...))
}
func (x args) carried() api.Term { return along(x.phi, susp(x.p), comp(x.t, x.a, x.sys...)) }
func (x args) merid() api.Term   { return along(x.phi, susp(x.p), merid(x.a, x.phi)) }

// fault is something that is refused, and how it comes into the parts: ahead of what is there.
type fault struct {
	e    api.Errno
	into func(*args)
}

// place tells one of the parts.
type place func(*args) *api.Term

var (
	inP = place(func(x *args) *api.Term { return &x.p })
	inB = place(func(x *args) *api.Term { return &x.b })
	inM = place(func(x *args) *api.Term { return &x.m })
	inL = place(func(x *args) *api.Term { return &x.l })
	inT = place(func(x *args) *api.Term { return &x.t })
	inA = place(func(x *args) *api.Term { return &x.a })
	inU = place(func(x *args) *api.Term { return &x.sys[0].Kids[0] })
	inV = place(func(x *args) *api.Term { return &x.sys[1].Kids[0] })
)

// has tells the fault that a part stands there, one deeper than the place.
func (p place) has(e api.Errno, bad api.Term) fault {
	return fault{e, func(x *args) {
		t := p(x)
		t.Sys = append(system{at(always, bad)}, t.Sys...)
	}}
}

// deep tells the fault that the place is so deep.
func (p place) deep(depth int) fault { return p.has(api.ErrDeep, tall(depth-1)) }

// great tells the fault that it has so many nodes more.
func (p place) great(nodes int) fault { return p.has(api.ErrSize, sample.Balanced(nodes)) }

// with tells the fault that two parts make together.
func (f fault) with(g fault) fault {
	return fault{f.e, func(x *args) {
		f.into(x)
		g.into(x)
	}}
}

// lifts tells what is refused of a part under a dimension more: first its variables, then its dimensions, of which one more may be bound in it.
func (p place) lifts() []fault {
	return []fault{p.has(api.ErrTerm, v(billion+1)), p.has(api.ErrDims, loop(23)), p.has(api.ErrDims, plam(plam(loop(23))))}
}

// within tells what is refused of a line two binders further in: what lifting it refuses, node by node, and then what putting i meet j there makes too great.
func (p place) within() []fault {
	far := times(22, loop(22), plam)
	return []fault{p.has(api.ErrDims, loop(22)), p.has(api.ErrTerm, v(billion+1)), p.has(api.ErrDims, far), p.has(api.ErrBig, wide(33, neg(1))), p.has(api.ErrDims, far)}
}

// face tells the fault that a branch has one.
func face(n int, f row) fault { return fault{api.ErrDims, func(x *args) { x.sys[n].Face = f }} }

// unformed tells what Formed refuses of the whole, in the order of depth, size and nodes; the places are so deep in it.
func unformed(depths map[int][]place) []fault {
	var deep, great, bad []fault
	for at := 1; at <= 3; at++ {
		for _, p := range depths[at] {
			deep = append(deep, p.deep(201-at))
			great = append(great, p.great(19995))
			bad = append(bad, p.has(api.ErrTerm, api.Term{}), p.has(api.ErrTerm, lam(v(-1))), p.has(api.ErrTerm, loops(pos(1<<24))))
		}
	}
	return slices.Concat(deep, great, bad)
}

// ofFill tells what is refused of the filler.
func ofFill() []fault {
	return slices.Concat(inT.lifts(), inA.lifts(), []fault{face(0, row{pos(sample.Last)})}, inU.within(), []fault{face(1, row{neg(1), neg(sample.Last)})}, inV.within(), []fault{inA.has(api.ErrDims, loop(22)), inA.great(9995)})
}

// ofAt tells what is refused of its being put into what is made.
func ofAt() []fault {
	twice := inP.has(api.ErrSize, pair(v(0), v(0)))
	return []fault{
		twice.with(inA.great(4000)), twice.with(inU.great(7000)), inP.has(api.ErrTerm, lam(v(1))).with(inT.has(0, v(billion))), inP.has(api.ErrDims, plam(v(0))).with(inT.has(0, loop(22))), inP.has(api.ErrTerm, lam(v(1))).with(inA.has(0, v(billion))),
		inP.has(api.ErrDeep, times(100, v(0), fst)).with(inA.has(0, tall(100))),
	}
}

// ofElim tells all that is refused of an eliminator of a composition, in order; ahead are the places of what stands for the constructors.
func ofElim(ahead ...place) []fault {
	var lifts, deep, great []fault
	for _, p := range ahead {
		lifts = append(lifts, p.lifts()...)
		deep = append(deep, p.deep(199))
		great = append(great, p.great(9995))
	}
	deep = append(deep, inP.deep(199))
	// The line goes further in, with i join j for its dimension, which stands in what comes of the branches.
	far := times(21, loop(21), plam)
	rest := []fault{
		inP.has(api.ErrDims, loop(21)), inA.has(api.ErrDims, loop(21)), inU.has(api.ErrDims, loop(21)), inP.has(api.ErrDims, plam(loop(22))).with(inU.has(0, wide(33, pos(1)))),
		inU.has(api.ErrDims, far), inU.has(api.ErrBig, wide(33, pos(1))), inU.has(api.ErrDims, far), inV.has(api.ErrBig, wide(33, pos(1))), inV.has(api.ErrDims, far),
	}
	last := []fault{inP.has(api.ErrDeep, times(90, v(0), fst)).with(inA.has(0, tall(107))), inP.great(3400)}
	return slices.Concat(unformed(map[int][]place{1: append([]place{inP}, ahead...), 2: {inT, inA, inU, inV}}), ofFill(), inP.lifts(), ofAt(), lifts, deep, great, rest, last)
}

// where tells the fault that phi is some row.
func where(e api.Errno, f row) fault { return fault{e, func(x *args) { x.phi = f }} }

// ofCarry tells all that is refused of a composition that is carried, in order.
func ofCarry() []fault {
	return slices.Concat(unformed(map[int][]place{2: {inP, inT, inA, inU, inV}}), []fault{where(api.ErrTerm, row{both(2, 2)}), where(api.ErrDims, row{neg(1), pos(sample.Last)})}, inP.lifts(), []fault{inP.deep(198), inP.great(5000)})
}

// Each of all faults is told; of two the first.
func TestWhichIsToldFirst(t *testing.T) {
	for _, x := range []struct {
		name, call string
		whole      func(args) api.Term
		all        []fault
	}{
		{"circle", "Elim", args.circle, ofElim(inB, inL)}, {"susp", "Elim", args.susp, ofElim(inB, inM, inL)}, {"composition", "Carry", args.carried, ofCarry()},
		{"merid", "Carry", args.merid, append(unformed(map[int][]place{2: {inP, inA}}), where(api.ErrTerm, row{both(2, 2)}))},
	} {
		do := calls()[x.call]
		if _, ok, e := do(x.whole(sound())); !ok || e != api.OK {
			t.Errorf("%s without a fault: %t, %d", x.name, ok, e)
		}
		for n, first := range x.all {
			alone := sound()
			first.into(&alone)
			becomes(t, x.call, x.whole(alone), api.Term{}, first.e)
			for k, second := range x.all[n+1:] {
				two := sound()
				second.into(&two)
				first.into(&two)
				becomes(t, x.call, x.whole(two), api.Term{}, first.e)
				if t.Failed() {
					t.Fatalf("%s of the faults %d and %d", x.name, n, n+1+k)
				}
			}
		}
	}
}

// What is no term is refused, whether it would become anything or not, and wherever it stands: in what goes, too.
func TestNoTerms(t *testing.T) {
	for want, l := range map[api.Errno][]api.Term{
		api.ErrTerm: {{}, v(-1), v(math.MinInt), of(api.Lam), fst(pair(univ, of(api.Univ, univ))), {Kind: 29}, {Kind: -1}, {Kind: math.MinInt}, loops(pos(1 << 24)), loops(pos(1), pos(3)), along(row{both(1, 1)}, univ, univ), along(never, susp(univ), of(api.North, univ)), grown(univ, never, univ), {Kind: api.Const}, {Kind: api.Const, Name: "1"}, {Kind: api.Univ, N: 1}, with(univ, always)},
		api.ErrDeep: {tall(201), times(199, pair(univ, univ), fst), times(1000, api.Term{}, fst), pair(sample.Balanced(20001), tall(200))},
		api.ErrSize: {sample.Balanced(20001), sample.Bushy(20001), pair(api.Term{}, sample.Balanced(19999))},
	} {
		for _, bad := range l {
			for name := range calls() {
				becomes(t, name, bad, api.Term{}, want)
			}
			for _, good := range []api.Term{univ, north, comp(univ, univ), susp(univ)} {
				inEachPlace(t, never, good, bad, want)
			}
		}
	}
}

// inEachPlace holds that a bad part is told in each place of each kind, the others of which have a row and a term; and within a composition, or a Merid, that would be eliminated or carried.
func inEachPlace(t *testing.T, r row, good, bad api.Term, want api.Errno) {
	t.Helper()
	for kind := api.Var; kind <= api.The; kind++ {
		_, rows := sample.Places(kind, func(int) row { return r }, func(int) api.Term { return good })
		for place, isRow := range rows {
			x, _ := sample.Places(kind, func(int) row { return r }, func(k int) api.Term {
				if k == place {
					return bad
				}
				return good
			})
			for name := range calls() {
				if !isRow {
					becomes(t, name, x, api.Term{}, want)
					becomes(t, name, of(api.CircleEl, good, good, good, x), api.Term{}, want)
					becomes(t, name, along(never, susp(good), x), api.Term{}, want)
				}
			}
		}
	}
}

func TestWrongRows(t *testing.T) {
	for _, bad := range sample.WrongFaces() {
		for _, x := range []api.Term{along(bad, susp(univ), north), along(bad, susp(univ), south), along(bad, susp(univ), merid(univ, never)), along(bad, susp(univ), comp(univ, univ)), along(bad, univ, univ), comp(univ, univ, at(bad, univ)), comp(univ, univ, at(always, univ), at(bad, univ))} {
			for name := range calls() {
				becomes(t, name, x, api.Term{}, api.ErrTerm)
				becomes(t, name, of(api.CircleEl, univ, univ, univ, x), api.Term{}, api.ErrTerm)
				becomes(t, name, of(api.SuspEl, univ, univ, univ, univ, x), api.Term{}, api.ErrTerm)
				becomes(t, name, along(never, susp(univ), x), api.Term{}, api.ErrTerm)
			}
		}
	}
	for _, bad := range sample.WrongFormulas() {
		becomes(t, "Carry", along(never, susp(univ), merid(univ, bad)), api.Term{}, api.ErrTerm)
	}
	// A formula's clauses may clash, and it may stand where nothing is lifted.
	becomes(t, "Carry", along(row{pos(sample.Last)}, susp(univ), merid(univ, row{both(sample.Last, sample.Last)})), merid(along(row{pos(sample.Last)}, univ, univ), row{both(sample.Last, sample.Last)}), api.OK)
}

func TestWrongForms(t *testing.T) {
	forms := sample.Forms()
	for _, x := range []api.Term{of(api.CircleEl, univ, univ, univ, comp(univ, univ)), of(api.SuspEl, univ, univ, univ, univ, comp(univ, univ)), along(never, susp(univ), north), along(never, susp(univ), merid(univ, never)), along(always, susp(univ), comp(univ, univ, at(always, univ)))} {
		last := len(x.Kids) - 1
		more, less, none, named, numbered := x, x, x, x, x
		more.Kids = append(slices.Clone(x.Kids), x.Kids[last])
		less.Kids, none.Kids, named.Name, numbered.N = x.Kids[1:], nil, "c", 1
		wrong := []api.Term{more, less, none, named, numbered, grown(x, never, univ)}
		if !forms[x.Kind].Face {
			wrong = append(wrong, with(x, always))
		}
		inner := []api.Term{of(api.HComp, univ), of(api.HComp, univ, univ, univ), grown(comp(univ, univ), always), grown(comp(univ, univ), always, univ, univ), with(comp(univ, univ), always), of(api.Merid), merid(univ, row{pos(1), pos(1)}), of(api.North, univ), with(north, always), {Kind: api.South, N: 1}}
		for _, y := range inner {
			z := x
			z.Kids = append(slices.Clone(x.Kids[:last]), y)
			wrong = append(wrong, z)
		}
		for _, bad := range wrong {
			for name := range calls() {
				becomes(t, name, bad, api.Term{}, api.ErrTerm)
			}
		}
	}
	for _, line := range []api.Term{of(api.Susp), of(api.Susp, univ, univ), with(susp(univ), always), grown(susp(univ), always, univ)} {
		becomes(t, "Carry", along(never, line, north), api.Term{}, api.ErrTerm)
	}
}

// What goes behind no binder is not refused: without a branch nothing but what is made, and the composition's type and part; of what is carried nothing but the line and phi, and these behind branches alone.
func TestWhatIsNotRefused(t *testing.T) {
	far := pair(v(math.MaxInt), pair(loop(23), times(22, loop(22), plam)))
	line := func(p api.Term) api.Term { return along(never, p, of(api.CircleEl, p, far, far, univ)) }
	becomes(t, "Elim", of(api.CircleEl, circle, far, far, comp(univ, univ)), comp(circle, line(circle)), api.OK)
	becomes(t, "Elim", of(api.CircleEl, loop(22), far, far, comp(univ, univ)), comp(loop(22), along(never, loop(23), of(api.CircleEl, loop(22), far, far, univ))), api.OK)
	becomes(t, "Elim", of(api.SuspEl, circle, far, far, far, comp(univ, univ)), comp(circle, along(never, circle, of(api.SuspEl, circle, far, far, far, univ))), api.OK)
	becomes(t, "Elim", of(api.CircleEl, circle, univ, univ, comp(univ, univ, at(always, univ))), comp(circle, along(never, circle, of(api.CircleEl, circle, univ, univ, univ)), at(always, along(row{pos(1)}, circle, of(api.CircleEl, circle, univ, univ, univ)))), api.OK)
	phi := row{neg(2), pos(sample.Last)}
	becomes(t, "Carry", along(phi, susp(far), north), north, api.OK)
	becomes(t, "Carry", along(phi, susp(far), merid(far, row{pos(sample.Last)})), merid(along(phi, far, far), row{pos(sample.Last)}), api.OK)
	end := susp(pair(v(math.MaxInt), pair(loop(22), times(22, loops(always...), plam))))
	becomes(t, "Carry", along(phi, susp(far), comp(far, far)), comp(end, along(phi, susp(far), far)), api.OK)
	f := row{pos(sample.Last)}
	becomes(t, "Carry", along(never, susp(univ), comp(far, far, at(f, far))), comp(susp(univ), along(never, susp(univ), far), at(f, along(never, susp(univ), far))), api.OK)
	// Whatever would be refused, what is none of these is nothing.
	for _, x := range []api.Term{of(api.CircleEl, far, far, far, far), of(api.SuspEl, far, far, far, far, merid(far, phi)), along(phi, far, comp(far, far, at(f, far))), along(phi, susp(far), far), comp(far, far, at(f, far))} {
		nothing(t, x)
	}
}

// Of a part that goes under a dimension more the variables are lifted first, all of them.
func TestVariablesAreLiftedFirst(t *testing.T) {
	bad := pair(loop(23), v(billion+1))
	in := func(p place) args {
		x := sound()
		*p(&x) = bad
		return x
	}
	for _, p := range []place{inP, inB, inL} {
		becomes(t, "Elim", in(p).circle(), api.Term{}, api.ErrTerm)
		becomes(t, "Elim", in(p).susp(), api.Term{}, api.ErrTerm)
	}
	becomes(t, "Elim", in(inM).susp(), api.Term{}, api.ErrTerm)
	becomes(t, "Carry", in(inP).carried(), api.Term{}, api.ErrTerm)
}
