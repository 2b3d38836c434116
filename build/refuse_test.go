package build

import (
	"math"
	"slices"
	"testing"

	"hypercube/api"
	"hypercube/sample"
)

const billion = 1000000000

// args are what the calls are handed; t is the line, too.
type args struct {
	t, a, f, y api.Term
	phi        row
	sys        system
}

// call is one of them.
type call = func(args) (api.Term, api.Errno)

func calls() map[string]call {
	return map[string]call{
		"Comp":  func(x args) (api.Term, api.Errno) { return Comp(x.t, x.a, x.sys) },
		"Fill":  func(x args) (api.Term, api.Errno) { return Fill(x.t, x.a, x.sys) },
		"Run":   func(x args) (api.Term, api.Errno) { return Run(x.t, x.phi, x.a) },
		"Back":  func(x args) (api.Term, api.Errno) { return Back(x.t, x.phi, x.a) },
		"Fiber": func(x args) (api.Term, api.Errno) { return Fiber(x.t, x.a, x.f, x.y) },
		"Contr": func(x args) (api.Term, api.Errno) { return Contr(x.t) },
		"Equiv": func(x args) (api.Term, api.Errno) { return Equiv(x.t, x.a) },
	}
}

// sound tells arguments that may be: each term has room for parts, one beside the other.
func sound() args {
	part := func() api.Term { return of(api.MkGlue, univ) }
	return args{part(), part(), part(), part(), row{pos(1)}, system{at(row{pos(1)}, part()), at(row{neg(1)}, part())}}
}

// fault is something that is refused, and how it comes into the arguments: ahead of those that are there.
type fault struct {
	e    api.Errno
	into func(*args)
}

// place tells a term of the arguments.
type place func(*args) *api.Term

var (
	inT = place(func(x *args) *api.Term { return &x.t })
	inA = place(func(x *args) *api.Term { return &x.a })
	inF = place(func(x *args) *api.Term { return &x.f })
	inY = place(func(x *args) *api.Term { return &x.y })
	inU = place(func(x *args) *api.Term { return &x.sys[0].Kids[0] })
	inV = place(func(x *args) *api.Term { return &x.sys[1].Kids[0] })
)

// has tells the fault that a part stands there, one deeper than the place.
func (p place) has(e api.Errno, bad api.Term) fault {
	return fault{e, func(x *args) {
		t := p(x)
		t.Sys = append(system{at(always, bad)}, t.Sys...)
	}}
}

// deep tells the fault that the place is so deep.
func (p place) deep(depth int) fault { return p.has(api.ErrDeep, times(depth-2, univ, fst)) }

// great tells the fault that both terms together are too great.
func great(t, a int) fault {
	return fault{api.ErrSize, func(x *args) {
		inT.has(api.ErrSize, sample.Balanced(t)).into(x)
		inA.has(api.ErrSize, sample.Balanced(a)).into(x)
	}}
}

// unformed tells what Formed refuses of a term.
func (p place) unformed() []fault {
	return []fault{p.deep(201), p.has(api.ErrSize, sample.Balanced(19999)), p.has(api.ErrTerm, api.Term{}), p.has(api.ErrTerm, v(-1))}
}

// unformedSystem tells what it refuses of a system: how deep and how great it is counts with the system's term.
func unformedSystem() []fault {
	second := func(spoil func(b *api.Branch)) fault {
		return fault{api.ErrTerm, func(x *args) { spoil(&x.sys[1]) }}
	}
	return []fault{
		inV.deep(200), inU.has(api.ErrSize, sample.Balanced(19994)), inV.has(api.ErrTerm, api.Term{}), inU.has(api.ErrTerm, loops(pos(1<<24))),
		second(func(b *api.Branch) { b.Kids = append(b.Kids, univ) }), second(func(b *api.Branch) { b.Face = row{both(1, 1)} }), second(func(b *api.Branch) { b.Face = row{pos(1), pos(1)} }),
	}
}

// further tells what is refused of a line that goes two binders further in: by lifting it, node by node, and then by putting there what makes two clauses of each that has such a literal.
func (p place) further(literal api.Clause) []fault {
	far := times(22, loop(22), plam)
	return []fault{
		p.has(api.ErrDims, loop(22)), p.has(api.ErrTerm, v(billion+1)), p.has(api.ErrDims, plam(loop(23))),
		p.has(api.ErrDims, far), p.has(api.ErrBig, wide(33, literal)), p.has(api.ErrDims, far),
	}
}

// wide tells a formula of so many clauses with a literal.
func wide(clauses int, literal api.Clause) api.Term {
	return loops(sample.Least(sample.Met(up(sample.Pairs(clauses), 1), literal))...)
}

// inSystem tells the fault that a branch has a face.
func inSystem(e api.Errno, n int, f row) fault {
	return fault{e, func(x *args) { x.sys[n].Face = f }}
}

// where tells the fault that phi is some row.
func where(e api.Errno, f row) fault {
	return fault{e, func(x *args) { x.phi = f }}
}

// lifts tells what is refused of a term that goes behind more binders: first its variables, then its dimensions.
func (p place) lifts(vars, dims int) []fault {
	out := []fault{p.has(api.ErrTerm, v(billion+1-vars))}
	if dims > 0 {
		out = append(out, p.has(api.ErrDims, loop(24-dims)))
	}
	return out
}

// faults tells what is refused of each call, in order.
func faults() map[string][]fault {
	one, other := pos(1), neg(1)
	carried := func(literal api.Clause) []fault {
		return slices.Concat(inT.unformed(), inA.unformed(), []fault{where(api.ErrArg, row{both(1, 1)}), where(api.ErrDims, row{pos(sample.Last)}), where(api.ErrBig, sample.Pairs(64))}, inT.further(literal), inA.lifts(0, 1), []fault{inT.deep(200), great(10000, 10000)})
	}
	return map[string][]fault{
		"Comp": slices.Concat(inT.unformed(), inA.unformed(), unformedSystem(), inT.further(one), []fault{inA.deep(199), great(5000, 5000)}),
		"Fill": slices.Concat(inT.unformed(), inA.unformed(), unformedSystem(), inT.lifts(0, 1), inA.lifts(0, 1),
			[]fault{inSystem(api.ErrDims, 0, row{neg(sample.Last)})}, inU.further(other), []fault{inSystem(api.ErrDims, 1, row{pos(1), pos(sample.Last)})}, inV.further(other), inA.lifts(0, 2)[1:], []fault{inT.deep(200), great(6000, 7000)}),
		"Run":   carried(other),
		"Back":  carried(one),
		"Fiber": slices.Concat(inT.unformed(), inA.unformed(), inF.unformed(), inY.unformed(), inA.lifts(1, 1), inY.lifts(1, 0), inF.lifts(1, 0), []fault{inF.deep(198), great(10000, 10000)}),
		"Contr": slices.Concat(inT.unformed(), inT.lifts(1, 0), inT.lifts(2, 1), []fault{inT.deep(198), great(7000, 1)}),
		// What is refused of its Fiber and its Contr comes between: the one and the other are refused for themselves ahead of the whole.
		"Equiv": slices.Concat(inT.unformed(), inA.unformed(), inA.lifts(1, 0), inT.lifts(2, 0), inA.lifts(2, 0), inA.lifts(3, 1), []fault{inA.deep(199), great(10000, 10000)},
			inT.lifts(3, 0), inA.lifts(4, 0), inT.lifts(4, 1)[:1], inA.lifts(5, 2)[:1], inT.lifts(4, 1)[1:], inA.lifts(5, 2)[1:], []fault{inT.deep(197), great(7000, 1)}, []fault{inT.deep(195), great(5000, 10)}),
	}
}

// Each of all faults is told; of two, and of all from one on, the first.
func TestWhichIsToldFirst(t *testing.T) {
	for name, do := range calls() {
		all := faults()[name]
		if got, e := do(sound()); e != api.OK || got.Kind == 0 {
			t.Errorf("%s without a fault: %s, %d", name, short(got), e)
		}
		for n, first := range all {
			x := sound()
			first.into(&x)
			got, e := do(x)
			answer(t, name, got, e, api.Term{}, first.e)
			if t.Failed() {
				t.Fatalf("%s of the fault %d", name, n)
			}
			for k, second := range all[n+1:] {
				x := sound()
				second.into(&x)
				first.into(&x)
				got, e := do(x)
				answer(t, name, got, e, api.Term{}, first.e)
				if t.Failed() {
					t.Fatalf("%s of the faults %d and %d", name, n, n+1+k)
				}
			}
		}
	}
}

// Refusals that do not go by the order of the nodes: a line is lifted as a whole ahead of what is put in it, a term's variables ahead of its dimensions.
func TestNotNodeByNode(t *testing.T) {
	big, other, far := wide(33, pos(1)), wide(33, neg(1)), times(22, loop(22), plam)
	for _, x := range []struct {
		line api.Term
		want api.Errno
	}{
		{pair(big, loop(22)), api.ErrDims}, {pair(pair(big, other), v(billion+1)), api.ErrTerm}, {pair(far, v(billion+1)), api.ErrTerm}, {pair(loop(22), v(billion+1)), api.ErrDims}, {pair(v(billion+1), loop(22)), api.ErrTerm}, {pair(far, pair(big, other)), api.ErrDims}, {pair(pair(big, other), far), api.ErrBig},
		{grown(of(api.MkGlue, univ), row{pos(1 << 22)}, v(billion+1)), api.ErrDims}, {grown(of(api.MkGlue, v(billion+1)), row{pos(1 << 22)}, univ), api.ErrTerm}, {grown(of(api.HComp, univ, univ), row{pos(1)}, loop(23)), api.ErrDims}, {grown(of(api.HComp, univ, univ), never, loop(23)), api.ErrDims},
	} {
		line := pair(x.line, pair(big, other))
		for name, do := range map[string]call{
			"Comp": func(x args) (api.Term, api.Errno) {
				return Comp(x.t, univ, system{at(never, univ), at(always, api.Term{Kind: api.Base})})
			},
			"Fill": func(x args) (api.Term, api.Errno) { return Fill(univ, univ, system{at(row{pos(1)}, x.t)}) },
			"Run":  func(x args) (api.Term, api.Errno) { return Run(x.t, never, univ) },
			"Back": func(x args) (api.Term, api.Errno) { return Back(x.t, always, univ) },
		} {
			got, e := do(args{t: line})
			answer(t, name, got, e, api.Term{}, x.want)
		}
	}
	bad := pair(loop(23), v(billion+1))
	for name, do := range map[string]call{
		"Fill of t": func(args) (api.Term, api.Errno) { return Fill(bad, univ, nil) }, "Fill of a": func(args) (api.Term, api.Errno) { return Fill(univ, bad, nil) }, "Run": func(args) (api.Term, api.Errno) { return Run(univ, always, bad) }, "Back": func(args) (api.Term, api.Errno) { return Back(univ, never, bad) },
		"Fiber": func(args) (api.Term, api.Errno) { return Fiber(univ, bad, univ, univ) }, "Contr": func(args) (api.Term, api.Errno) { return Contr(bad) }, "Equiv": func(args) (api.Term, api.Errno) { return Equiv(bad, univ) },
	} {
		got, e := do(args{})
		answer(t, name, got, e, api.Term{}, api.ErrTerm)
	}
}

// Without a branch no line goes further in, so nothing is refused of it; neither is anything of a term that is not lifted.
func TestWhatIsNotRefused(t *testing.T) {
	far := pair(wide(64, pos(1)), pair(v(math.MaxInt), pair(loop(23), times(22, loop(22), plam))))
	if got, e := Comp(far, far, nil); e != api.OK || got.Kind != api.HComp || len(got.Sys) != 0 {
		t.Errorf("Comp without a branch: %s, %d", short(got), e)
	}
	if _, e := Comp(univ, far, system{at(row{pos(sample.Last)}, far)}); e != api.OK {
		t.Errorf("Comp of what is not lifted: %d", e)
	}
	if _, e := Fiber(far, univ, univ, univ); e != api.OK {
		t.Errorf("Fiber of what is not lifted: %d", e)
	}
	// 32 clauses that become two each, and more that stay one: what is met with both ends of a join, or of a meet's opposite.
	for name, x := range map[string]struct {
		line api.Term
		run  func(api.Term) (api.Term, api.Errno)
		want api.Errno
	}{
		"Run": {wide(32, neg(1)), func(x api.Term) (api.Term, api.Errno) { return Run(x, never, univ) }, api.OK}, "Run of i": {wide(64, pos(1)), func(x api.Term) (api.Term, api.Errno) { return Run(x, never, univ) }, api.OK}, "Run of more": {wide(33, neg(1)), func(x api.Term) (api.Term, api.Errno) { return Run(x, never, univ) }, api.ErrBig},
		"Back": {wide(32, pos(1)), func(x api.Term) (api.Term, api.Errno) { return Back(x, never, univ) }, api.OK}, "Back of -i": {wide(64, neg(1)), func(x api.Term) (api.Term, api.Errno) { return Back(x, never, univ) }, api.OK}, "Back of more": {wide(33, pos(1)), func(x api.Term) (api.Term, api.Errno) { return Back(x, never, univ) }, api.ErrBig},
		"Comp": {wide(32, pos(1)), func(x api.Term) (api.Term, api.Errno) { return Comp(x, univ, system{at(never, univ)}) }, api.OK}, "Comp of -i": {wide(64, neg(1)), func(x api.Term) (api.Term, api.Errno) { return Comp(x, univ, system{at(never, univ)}) }, api.OK}, "Comp of more": {wide(33, pos(1)), func(x api.Term) (api.Term, api.Errno) { return Comp(x, univ, system{at(never, univ)}) }, api.ErrBig},
		"Fill": {wide(32, neg(1)), func(x api.Term) (api.Term, api.Errno) { return Fill(univ, univ, system{at(never, x)}) }, api.OK}, "Fill of i": {wide(64, pos(1)), func(x api.Term) (api.Term, api.Errno) { return Fill(univ, univ, system{at(never, x)}) }, api.OK}, "Fill of more": {wide(33, neg(1)), func(x api.Term) (api.Term, api.Errno) { return Fill(univ, univ, system{at(never, x)}) }, api.ErrBig},
	} {
		got, e := x.run(x.line)
		if e != x.want || (got.Kind == 0) != (e != api.OK) {
			t.Errorf("%s: %s, %d, not %d", name, short(got), e, x.want)
		}
	}
}

// What is no term is refused wherever it is handed in, and what is no system, and no face.
func TestWrongInputs(t *testing.T) {
	noTerms := map[api.Errno][]api.Term{
		api.ErrTerm: {{}, v(-1), v(math.MinInt), of(api.Lam), of(api.App, univ), of(api.Univ, univ), lam(api.Term{Kind: 29}), {Kind: -1}, with(univ, always), loops(pos(1 << 24)), loops(pos(1), pos(3)), carry(row{both(1, 1)}, univ, univ), grown(of(api.Glue, univ), never, univ), grown(univ, never, univ), {Kind: api.Const, Name: "1"}, {Kind: api.Univ, N: 1}, {Kind: api.Const}},
		api.ErrDeep: {times(200, univ, fst), times(1000, api.Term{}, fst), pair(sample.Balanced(20001), times(199, univ, lam))},
		api.ErrSize: {sample.Balanced(20001), sample.Bushy(20001), pair(api.Term{}, sample.Balanced(19999))},
	}
	for e, l := range noTerms {
		for _, bad := range l {
			for name, do := range calls() {
				for k, p := range []place{inT, inA, inF, inY, inU, inV} {
					x := sound()
					*p(&x) = bad
					_, got := do(x)
					if asks := places()[name] >> k & 1; asks == 1 && got != e || asks == 0 && got != api.OK {
						t.Errorf("%s of %s in the place %d: %d, not %d", name, short(bad), k, got, e)
					}
				}
			}
		}
	}
	for _, bad := range sample.WrongFaces() {
		for name, do := range calls() {
			x, y := sound(), sound()
			x.phi, y.sys[1].Face = bad, bad
			want := map[bool]api.Errno{true: api.ErrArg}[name == "Run" || name == "Back"]
			if _, e := do(x); e != want {
				t.Errorf("%s with phi %v: %d, not %d", name, bad[:1], e, want)
			}
			want = map[bool]api.Errno{true: api.ErrTerm}[name == "Comp" || name == "Fill"]
			if _, e := do(y); e != want {
				t.Errorf("%s with a branch at %v: %d, not %d", name, bad[:1], e, want)
			}
		}
	}
	for _, kids := range [][]api.Term{nil, {}, {univ, univ}, {univ, univ, univ}, {univ, {}}, {{}, univ}} {
		for name, do := range calls() {
			want := map[bool]api.Errno{true: api.ErrTerm}[name == "Comp" || name == "Fill"]
			for n := range 2 {
				x := sound()
				x.sys[n].Kids = kids
				if got, e := do(x); e != want || (got.Kind == 0) != (e != api.OK) {
					t.Errorf("%s of a branch of %d Kids: %d, not %d", name, len(kids), e, want)
				}
			}
		}
	}
}

// places tells which terms a call is handed, a bit each: t, a, f, y, and those of two branches.
func places() map[string]int {
	return map[string]int{"Comp": 0b110011, "Fill": 0b110011, "Run": 0b11, "Back": 0b11, "Fiber": 0b1111, "Contr": 0b1, "Equiv": 0b11}
}
