package dims

import (
	"fmt"
	"testing"

	"hypercube/api"
	"hypercube/sample"
	"hypercube/term"
)

// row is what a formula is written as, and a face.
type row = []api.Clause

// Short names for what the tests write most.
var (
	pos, neg, both        = sample.Pos, sample.Neg, sample.Both
	node, with, grown     = sample.Node, sample.With, sample.Grown
	variable, loop, times = sample.Var, sample.Loop, sample.Times
	lam, plam, fst        = sample.Lam, sample.PLam, sample.Fst
	inEachPlace, parts    = sample.InEachPlace, sample.Parts
)

var (
	univ   = api.Term{Kind: api.Univ}
	zero   = row{}
	one    = row{{}}
	always = one
)

func loops(r ...api.Clause) api.Term      { return with(node(api.Loop), r) }
func pair(a, b api.Term) api.Term         { return node(api.Pair, a, b) }
func transp(r ...api.Clause) api.Term     { return with(node(api.Transp, univ, univ), r) }
func glued(f row, kid api.Term) api.Term  { return grown(node(api.MkGlue, univ), f, kid) }
func hcomp(f row, line api.Term) api.Term { return grown(node(api.HComp, univ, univ), f, line) }

// answer holds an answer against what is wanted: a term, or a refusal, which has none beside it.
func answer(t *testing.T, name string, got api.Term, e api.Errno, want api.Term, wantE api.Errno) {
	t.Helper()
	if wantE != api.OK {
		want = api.Term{}
	}
	if e != wantE || !term.Same(got, want) {
		t.Errorf("%s = %s, %d, not %s, %d", name, short(got), e, short(want), wantE)
	}
}

// short tells how a term begins.
func short(t api.Term) string {
	text := fmt.Sprint(t)
	return text[:min(len(text), 300)]
}

func TestExamples(t *testing.T) {
	got, e := Put(loop(0), 0, row{pos(2)})
	answer(t, "Put", got, e, loop(1), api.OK)
	got, e = Take(loops(pos(1), pos(2)), 0, zero)
	answer(t, "Take", got, e, loop(0), api.OK)
	got, e = Under(grown(node(api.HComp, variable(0), variable(1)), row{pos(1)}, variable(2)), neg(1))
	answer(t, "Under", got, e, node(api.HComp, variable(0), variable(1)), api.OK)
}

// P13.1.

// Formulas 0, 1, a dimension, its opposite, a meet and a join, in the place of a dimension and of its opposite; formulas go by chapter 3, faces by chapter 5.
func TestPutOfRows(t *testing.T) {
	meet, join := row{pos(6)}, row{pos(2), pos(4)}
	clash := row{both(2, 2)}
	for _, x := range []struct{ f, r, want row }{
		{row{pos(1)}, zero, zero}, {row{pos(1)}, one, one}, {row{pos(1)}, row{pos(2)}, row{pos(2)}}, {row{pos(1)}, row{neg(2)}, row{neg(2)}}, {row{pos(1)}, meet, meet}, {row{pos(1)}, join, join}, {row{pos(1)}, clash, clash},
		{row{neg(1)}, zero, one}, {row{neg(1)}, one, zero}, {row{neg(1)}, row{pos(2)}, row{neg(2)}}, {row{neg(1)}, row{neg(2)}, row{pos(2)}}, {row{neg(1)}, meet, row{neg(2), neg(4)}}, {row{neg(1)}, join, row{neg(6)}}, {row{neg(1)}, clash, row{neg(2), pos(2)}},
		{row{both(1, 1)}, zero, zero}, {row{both(1, 1)}, one, zero}, {row{both(1, 1)}, row{pos(2)}, clash}, {row{both(1, 1)}, meet, row{both(6, 2), both(6, 4)}}, {row{neg(1), pos(1)}, zero, one}, {row{neg(1), pos(1)}, row{neg(4)}, row{neg(4), pos(4)}},
		{row{pos(3)}, zero, zero}, {row{pos(3)}, one, row{pos(2)}}, {row{pos(3)}, row{pos(2)}, row{pos(2)}}, {row{pos(3)}, row{neg(2)}, clash}, {row{pos(1), pos(2)}, row{pos(6)}, row{pos(2)}}, {row{pos(1), pos(2)}, zero, row{pos(2)}}, {row{pos(1), pos(2)}, one, one},
		{row{pos(1)}, row{pos(1)}, row{pos(1)}}, {row{pos(1)}, row{neg(1)}, row{neg(1)}}, {row{neg(1)}, row{neg(1)}, row{pos(1)}}, {row{pos(1)}, row{pos(3)}, row{pos(3)}}, {row{both(4, 1)}, row{both(1, 2)}, row{both(4, 1), pos(6)}},
		{row{pos(2)}, zero, row{pos(2)}}, {row{both(2, 2)}, one, row{both(2, 2)}}, {zero, row{pos(1)}, zero}, {one, zero, one},
	} {
		for _, kind := range []int{api.Loop, api.Merid, api.PApp} {
			kids := make([]api.Term, term.Kids(kind))
			for k := range kids {
				kids[k] = univ
			}
			got, e := Put(with(node(kind, kids...), x.f), 0, x.r)
			answer(t, "Put", got, e, with(node(kind, kids...), x.want), api.OK)
		}
	}
	for _, x := range []struct{ f, r, want row }{
		{row{pos(1)}, zero, zero}, {row{pos(1)}, one, one}, {row{pos(1)}, row{pos(2)}, row{pos(2)}}, {row{pos(1)}, row{neg(2)}, row{neg(2)}}, {row{pos(1)}, meet, meet}, {row{pos(1)}, join, join}, {row{pos(1)}, clash, zero}, {row{pos(1)}, row{both(2, 2), pos(4)}, row{pos(4)}},
		{row{neg(1)}, zero, one}, {row{neg(1)}, one, zero}, {row{neg(1)}, row{pos(2)}, row{neg(2)}}, {row{neg(1)}, row{neg(2)}, row{pos(2)}}, {row{neg(1)}, meet, row{neg(2), neg(4)}}, {row{neg(1)}, join, row{neg(6)}}, {row{neg(1)}, clash, row{neg(2), pos(2)}}, {row{neg(1)}, row{neg(2), pos(2)}, zero},
		{row{pos(3)}, row{neg(2)}, zero}, {row{both(2, 1)}, row{pos(2)}, zero}, {row{both(1, 2), pos(4)}, row{pos(2)}, row{pos(4)}}, {row{neg(1), pos(1)}, join, row{neg(6), pos(2), pos(4)}}, {row{pos(2)}, zero, row{pos(2)}}, {zero, one, zero}, {always, zero, always},
	} {
		got, e := Put(transp(x.f...), 0, x.r)
		answer(t, "Put", got, e, transp(x.want...), api.OK)
		want := node(api.MkGlue, univ)
		if len(x.want) > 0 {
			want = glued(x.want, univ)
		}
		got, e = Put(glued(x.f, univ), 0, x.r)
		answer(t, "Put", got, e, want, api.OK)
	}
}

// The dimension and those next to it, of the outside and bound, behind binders of dimensions, of variables and of both.
func TestPutBehindBinders(t *testing.T) {
	for _, x := range []struct {
		t    api.Term
		i    int
		r    row
		want api.Term
	}{
		{plam(loop(0)), 0, one, plam(loop(0))}, {plam(loop(1)), 0, one, plam(loops(one...))}, {plam(loop(2)), 0, one, plam(loop(2))}, {plam(loop(1)), 1, one, plam(loop(1))}, {plam(loop(2)), 1, one, plam(loops(one...))}, {plam(loop(0)), 1, one, plam(loop(0))},
		{plam(loop(1)), 0, row{pos(1)}, plam(loop(1))}, {plam(loop(1)), 0, row{pos(2)}, plam(loop(2))}, {plam(loop(1)), 0, row{both(4, 1)}, plam(loops(both(8, 2)))}, {plam(loops(pos(3))), 0, row{pos(2)}, plam(loops(pos(5)))}, {plam(loops(both(1, 2))), 0, row{pos(2)}, plam(loops(both(1, 4)))},
		{lam(loop(0)), 0, row{pos(2)}, lam(loop(1))}, {lam(loop(1)), 0, row{pos(2)}, lam(loop(1))}, {lam(plam(lam(loop(1)))), 0, row{pos(2)}, lam(plam(lam(loop(2))))}, {plam(plam(loop(2))), 0, row{pos(8)}, plam(plam(loop(5)))}, {plam(plam(loop(1))), 0, row{pos(8)}, plam(plam(loop(1)))}, {plam(plam(pair(loop(0), loop(3)))), 1, row{neg(1)}, plam(plam(pair(loop(0), loops(neg(4)))))},
		{loop(23), 23, row{pos(1)}, loop(0)}, {loop(22), 23, row{pos(1)}, loop(22)}, {loop(0), 0, row{pos(sample.Last)}, loop(23)}, {plam(loop(23)), 22, row{pos(1)}, plam(loop(1))}, {plam(loop(23)), 23, row{pos(1)}, plam(loop(23))}, {times(23, loop(23), plam), 0, row{neg(1)}, times(23, loops(neg(sample.Last)), plam)}, {times(24, loop(23), plam), 0, one, times(24, loop(23), plam)}, {times(199, loop(23), plam), 23, one, times(199, loop(23), plam)}, {times(23, loop(23), plam), 1, one, times(23, loop(23), plam)},
		{variable(0), 0, one, variable(0)}, {variable(1000000007), 0, one, variable(1000000007)}, {lam(variable(3)), 0, one, lam(variable(3))}, {plam(variable(3)), 0, one, plam(variable(3))}, {api.Term{Kind: api.Const, Name: "a_1"}, 0, one, api.Term{Kind: api.Const, Name: "a_1"}},
		{transp(pos(1)), 0, row{pos(2)}, transp(pos(2))}, {node(api.Transp, loop(1), loop(1)), 0, row{pos(16)}, node(api.Transp, loop(5), loop(1))}, {node(api.Path, loop(1), loop(0), loop(1)), 0, row{pos(16)}, node(api.Path, loop(5), loop(4), loop(1))},
		{hcomp(row{pos(1)}, loop(1)), 0, row{pos(2)}, hcomp(row{pos(2)}, loop(2))}, {hcomp(row{pos(2)}, loop(0)), 0, row{pos(2)}, hcomp(row{pos(2)}, loop(0))}, {plam(hcomp(row{pos(2)}, loop(2))), 0, row{neg(8)}, plam(hcomp(row{neg(16)}, loops(neg(32))))}, {glued(row{pos(1)}, loop(1)), 0, row{pos(4)}, glued(row{pos(4)}, loop(1))},
	} {
		got, e := Put(x.t, x.i, x.r)
		answer(t, "Put", got, e, x.want, api.OK)
	}
}

// A term of each kind, with no branch, one and several: what stands in each place has i, or has it not.
func TestPutOfEachKind(t *testing.T) {
	f, face := row{neg(1), both(2, 2)}, row{neg(1), pos(1)}
	plain, bound := pair(loop(0), plam(loop(1))), pair(pair(loop(0), loop(1)), plam(loop(2)))
	for branches := range 4 {
		before := inEachPlace(branches, parts('i', plain, bound), f, face)
		after := inEachPlace(branches, parts('i', pair(loop(3), plam(loop(4))), pair(pair(loop(0), loop(4)), plam(loop(5)))), row{neg(8), both(2, 2)}, row{neg(8), pos(8)})
		for k, x := range before {
			got, e := Put(x, 0, row{pos(8)})
			answer(t, "Put at 0", got, e, after[k], api.OK)
			got, e = Put(x, 2, row{pos(8)})
			answer(t, "Put at 2", got, e, x, api.OK)
		}
	}
}

// A branch goes, if its face is never afterwards: also one that was never ahead of it; a face of a Transp stays.
func TestPutOfBranches(t *testing.T) {
	i, noti, j := row{pos(1)}, row{neg(1)}, row{pos(2)}
	for kind, kids := range map[int]int{api.HComp: 2, api.Glue: 1, api.MkGlue: 1, api.Unglue: 1} {
		var own []api.Term
		for range kids {
			own = append(own, univ)
		}
		system := func(faces ...row) api.Term {
			x := node(kind, own...)
			for k, f := range faces {
				var in []api.Term
				for range term.Parts(kind) {
					in = append(in, variable(k))
				}
				x = grown(x, f, in...)
			}
			return x
		}
		// left tells the branches that are left, by their places.
		left := func(faces []row, places ...int) api.Term {
			x, all := node(kind, own...), system(faces...)
			for _, k := range places {
				x.Sys = append(x.Sys, all.Sys[k])
			}
			return x
		}
		for _, x := range []struct {
			faces []row
			r     row
			after []row
			left  []int
		}{
			{nil, one, nil, nil}, {[]row{i}, zero, []row{zero}, nil}, {[]row{noti}, one, []row{zero}, nil}, {[]row{i}, one, []row{always}, []int{0}}, {[]row{i, noti}, one, []row{always, zero}, []int{0}}, {[]row{i, noti}, zero, []row{zero, always}, []int{1}}, {[]row{i, j, noti, j}, zero, []row{zero, j, always, j}, []int{1, 2, 3}},
			{[]row{zero}, one, []row{zero}, nil}, {[]row{zero, j, zero}, one, []row{zero, j, zero}, []int{1}}, {[]row{i, zero, noti}, j, []row{j, zero, row{neg(2)}}, []int{0, 2}}, {[]row{zero}, i, []row{zero}, nil}, {[]row{i, i, i}, zero, []row{zero, zero, zero}, nil}, {[]row{always, i}, zero, []row{always, zero}, []int{0}},
			{[]row{i, noti, {neg(1), pos(1)}, {neg(1), pos(2)}}, row{both(2, 2)}, []row{zero, {neg(2), pos(2)}, {neg(2), pos(2)}, {neg(2), pos(2)}}, []int{1, 2, 3}}, {[]row{{pos(3)}, {pos(1), pos(4)}}, zero, []row{zero, {pos(4)}}, []int{1}},
		} {
			before, want := system(x.faces...), left(x.after, x.left...)
			for _, in := range []func(api.Term) api.Term{func(x api.Term) api.Term { return x }, fst, lam, func(x api.Term) api.Term { return glued(always, x) }, func(x api.Term) api.Term { return node(api.SuspEl, univ, x, univ, univ, x) }} {
				got, e := Put(in(before), 0, x.r)
				answer(t, "Put", got, e, in(want), api.OK)
			}
		}
	}
	// What stands inside a branch that stays loses its own.
	got, e := Put(glued(row{pos(2)}, glued(row{pos(1)}, univ)), 0, zero)
	answer(t, "Put", got, e, glued(row{pos(2)}, node(api.MkGlue, univ)), api.OK)
	got, e = Put(transp(pos(1)), 0, zero)
	answer(t, "Put", got, e, transp(), api.OK)
	got, e = Put(transp(), 0, zero)
	answer(t, "Put", got, e, transp(), api.OK)
}

// P13.2.

func TestTake(t *testing.T) {
	for _, x := range []struct {
		t    api.Term
		i    int
		r    row
		want api.Term
	}{
		// r's dimensions below i, at its number and above: those of behind its going.
		{loop(3), 3, row{pos(1)}, loop(0)}, {loop(3), 3, row{pos(4)}, loop(2)}, {loop(3), 3, row{pos(8)}, loop(3)}, {loop(3), 3, row{pos(16)}, loop(4)}, {loop(3), 3, row{pos(1 << 22)}, loop(22)}, {loop(3), 3, row{both(1, 8), pos(16)}, loops(both(1, 8), pos(16))}, {loops(neg(8)), 3, row{both(2, 8)}, loops(neg(2), pos(8))},
		{loop(0), 0, row{pos(1)}, loop(0)}, {loop(0), 0, one, loops(one...)}, {loop(0), 0, zero, loops()}, {loop(23), 23, row{pos(1 << 22)}, loop(22)}, {loop(23), 23, zero, loops()}, {loop(0), 0, row{pos(1 << 22)}, loop(22)},
		// Those above i count one less, those below stay.
		{loop(0), 3, one, loop(0)}, {loop(2), 3, one, loop(2)}, {loop(4), 3, one, loop(3)}, {loop(23), 3, one, loop(22)}, {loop(23), 0, one, loop(22)}, {loop(22), 23, one, loop(22)}, {loops(both(16, 2), both(16, 32)), 3, one, loops(both(8, 2), both(8, 16))}, {loops(pos(24)), 3, row{pos(8)}, loop(3)}, {loops(pos(8), pos(16)), 3, row{neg(8)}, loops(neg(8), pos(8))},
		// Behind binders.
		{plam(loop(0)), 0, one, plam(loop(0))}, {plam(loop(1)), 0, row{pos(1)}, plam(loop(1))}, {plam(loop(2)), 0, one, plam(loop(1))}, {plam(loops(pos(3))), 0, row{neg(1)}, plam(loops(both(1, 2)))}, {plam(plam(loop(3))), 1, row{pos(2)}, plam(plam(loop(3)))}, {plam(plam(pair(loop(1), loop(4)))), 1, row{pos(2)}, plam(plam(pair(loop(1), loop(3))))}, {plam(loop(23)), 23, one, plam(loop(23))}, {plam(loop(23)), 22, row{pos(1)}, plam(loop(1))}, {times(24, loop(23), plam), 0, zero, times(24, loop(23), plam)}, {times(23, loop(23), plam), 0, zero, times(23, loops(), plam)}, {times(22, loop(23), plam), 0, zero, times(22, loop(22), plam)}, {times(199, loop(23), plam), 0, zero, times(199, loop(23), plam)},
		{lam(loop(1)), 0, one, lam(loop(0))}, {variable(5), 0, one, variable(5)}, {lam(plam(variable(5))), 0, one, lam(plam(variable(5)))}, {api.Term{Kind: api.Const, Name: "a_1"}, 0, one, api.Term{Kind: api.Const, Name: "a_1"}},
		// Faces, and branches that go.
		{transp(pos(1), pos(2)), 0, zero, transp(pos(1))}, {transp(both(2, 1)), 0, row{pos(1)}, transp()}, {transp(both(2, 1)), 0, row{pos(2)}, transp(both(1, 2))}, {hcomp(row{pos(2)}, loop(2)), 0, zero, hcomp(row{pos(1)}, loop(1))}, {hcomp(row{pos(1)}, loop(1)), 0, zero, node(api.HComp, univ, univ)}, {hcomp(row{pos(1)}, loop(1)), 0, one, hcomp(always, loops(one...))}, {hcomp(zero, loop(1)), 0, one, node(api.HComp, univ, univ)}, {glued(row{pos(1)}, loop(1)), 0, row{pos(4)}, glued(row{pos(4)}, loop(0))},
	} {
		got, e := Take(x.t, x.i, x.r)
		answer(t, "Take", got, e, x.want, api.OK)
	}
}

func TestTakeOfEachKind(t *testing.T) {
	f, face := row{neg(1), both(2, 2)}, row{neg(1), pos(2)}
	plain, bound := pair(loop(0), plam(loop(2))), pair(pair(loop(0), loop(1)), plam(loop(3)))
	for branches := range 4 {
		before := inEachPlace(branches, parts('i', plain, bound), f, face)
		after := inEachPlace(branches, parts('i', pair(loop(4), plam(loop(1))), pair(pair(loop(0), loop(5)), plam(loop(2)))), row{neg(16), both(1, 1)}, row{neg(16), pos(1)})
		for k, x := range before {
			got, e := Take(x, 0, row{pos(16)})
			answer(t, "Take of 0", got, e, after[k], api.OK)
			got, e = Take(x, 2, row{pos(16)})
			answer(t, "Take of 2", got, e, x, api.OK)
		}
	}
}

// P13.3.

func TestUnder(t *testing.T) {
	never := glued(zero, univ)
	for _, x := range []struct {
		t    api.Term
		c    api.Clause
		want api.Term
	}{
		{loop(0), pos(1), loops(one...)}, {loop(0), neg(1), loops()}, {loop(0), pos(2), loop(0)}, {loop(0), neg(2), loop(0)}, {loops(neg(1)), pos(1), loops()}, {loops(neg(1)), neg(1), loops(one...)}, {loops(both(1, 1)), neg(1), loops()}, {loops(both(1, 1)), pos(1), loops()}, {loops(neg(1), pos(1)), pos(1), loops(one...)},
		{loops(pos(15)), pos(5), loops(pos(10))}, {loops(both(5, 10)), both(1, 2), loops(both(4, 8))}, {loops(both(5, 10)), both(2, 1), loops()}, {loops(pos(1), pos(2), pos(4)), neg(3), loop(2)}, {loops(pos(1), pos(2), pos(4)), neg(7), loops()}, {loops(pos(1), pos(2)), both(2, 1), loops(one...)}, {loop(23), pos(sample.Last), loops(one...)}, {loop(23), neg(sample.Last), loops()}, {loops(both(3, 12)), pos(sample.Full), loops()}, {loops(pos(sample.Full)), pos(sample.Full), loops(one...)},
		{plam(loops(pos(3))), pos(1), plam(loop(0))}, {plam(loops(pos(3))), pos(2), plam(loops(pos(3)))}, {plam(plam(loops(both(2, 4)))), neg(1), plam(plam(loop(1)))}, {lam(loop(0)), pos(1), lam(loops(one...))}, {times(23, loop(23), plam), pos(1), times(23, loops(one...), plam)}, {times(24, loop(23), plam), pos(sample.Full), times(24, loop(23), plam)},
		{transp(pos(1), pos(2)), neg(1), transp(pos(2))}, {transp(pos(1)), neg(1), transp()}, {transp(both(1, 2)), both(1, 2), transp(always...)}, {hcomp(row{pos(1)}, loop(1)), pos(1), hcomp(always, loops(one...))}, {hcomp(row{pos(1)}, loop(1)), neg(1), node(api.HComp, univ, univ)}, {grown(glued(row{pos(1)}, univ), row{neg(2)}, loop(1)), both(1, 2), grown(glued(always, univ), always, loops())}, {grown(glued(row{pos(1)}, univ), row{neg(2)}, loop(1)), pos(2), glued(row{pos(1)}, univ)},
		// A clause that says nothing leaves all as it is, also a branch that is never; each other one takes that out.
		{never, api.Clause{}, never}, {never, pos(1), node(api.MkGlue, univ)}, {never, neg(sample.Last), node(api.MkGlue, univ)}, {loops(both(1, 1)), api.Clause{}, loops(both(1, 1))}, {hcomp(zero, hcomp(zero, loop(23))), api.Clause{}, hcomp(zero, hcomp(zero, loop(23)))},
		{variable(3), both(1, 2), variable(3)}, {api.Term{Kind: api.Const, Name: "a_1"}, both(1, 2), api.Term{Kind: api.Const, Name: "a_1"}},
	} {
		got, e := Under(x.t, x.c)
		answer(t, "Under", got, e, x.want, api.OK)
	}
}

func TestUnderOfEachKind(t *testing.T) {
	f, face := row{both(2, 4), pos(3)}, row{both(1, 4), pos(8)}
	plain, bound := pair(loops(pos(3)), plam(loops(both(1, 8)))), pair(loops(pos(7)), plam(loops(both(3, 16))))
	for branches := range 4 {
		before := inEachPlace(branches, parts('i', plain, bound), f, face)
		after := inEachPlace(branches, parts('i', pair(loop(1), plam(loop(0))), pair(loops(pos(5)), plam(loops(pos(3))))), row{pos(2)}, always)
		for k, x := range before {
			got, e := Under(x, both(1, 4))
			answer(t, "Under", got, e, after[k], api.OK)
			got, e = Under(x, pos(1<<7))
			answer(t, "Under what it has not", got, e, x, api.OK)
		}
	}
}
