package dims

import (
	"math"
	"testing"

	"hypercube/api"
	"hypercube/sample"
)

// calls tells both that put a formula in the place of a dimension, by their names.
func calls() map[string]func(api.Term, int, row) (api.Term, api.Errno) {
	return map[string]func(api.Term, int, row) (api.Term, api.Errno){"Put": Put, "Take": Take}
}

// badClauses are those that may not be, those that clash, and those that do both.
var badClauses = []api.Clause{
	pos(1 << 24), neg(1 << 24), pos(1 << 31), neg(math.MaxUint32), both(1, 1<<24), both(1<<25, 2), both(math.MaxUint32, math.MaxUint32), both(1<<24, 1<<24),
	both(1, 1), both(3, 6), both(sample.Last, sample.Last), both(sample.Full, 1), both(1, sample.Full), both(sample.Full, sample.Full),
}

// What Formed refuses is told, ahead of all that is wrong with the other arguments.
func TestNotFormed(t *testing.T) {
	deep, great := times(200, univ, fst), sample.Balanced(20001)
	for _, x := range []struct {
		t    api.Term
		want api.Errno
	}{
		{api.Term{}, api.ErrTerm}, {variable(-1), api.ErrTerm}, {node(api.Lam), api.ErrTerm}, {lam(api.Term{Kind: 29}), api.ErrTerm}, {with(univ, row{{}}), api.ErrTerm}, {loops(pos(1 << 24)), api.ErrTerm}, {loops(pos(1), pos(3)), api.ErrTerm},
		{transp(both(1, 1)), api.ErrTerm}, {grown(node(api.Glue, univ), nil, univ), api.ErrTerm}, {hcomp(row{both(1, 1)}, univ), api.ErrTerm}, {api.Term{Kind: api.Const, Name: "1"}, api.ErrTerm},
		{deep, api.ErrDeep}, {great, api.ErrSize}, {pair(great, deep), api.ErrDeep}, {pair(api.Term{}, great), api.ErrSize}, {sample.Bushy(20001), api.ErrSize},
		// What is not formed stands behind what can't be lifted, or in a branch that would go.
		{pair(plam(loop(1)), api.Term{}), api.ErrTerm}, {pair(plam(loop(1)), deep), api.ErrDeep}, {hcomp(zero, api.Term{}), api.ErrTerm}, {hcomp(zero, deep), api.ErrDeep}, {glued(row{pos(1)}, loops(pos(1), pos(3))), api.ErrTerm},
	} {
		for name, call := range calls() {
			for _, i := range append(sample.NoDimensions(), 0, 1, 23) {
				for _, r := range []row{zero, one, {pos(1)}, {both(2, 2)}, {pos(sample.Last)}, {pos(1 << 24)}, {pos(1), pos(3)}} {
					got, e := call(x.t, i, r)
					answer(t, name, got, e, api.Term{}, x.want)
				}
			}
		}
		for _, c := range append(badClauses, api.Clause{}, pos(1), neg(1), both(1, 2)) {
			got, e := Under(x.t, c)
			answer(t, "Under", got, e, api.Term{}, x.want)
		}
	}
}

// What is no dimension, no formula, no clause that may be and does not clash is refused: whether or not there is a row that it is put into, and ahead of all lifting.
func TestBadArguments(t *testing.T) {
	terms := []api.Term{univ, variable(0), loop(0), loop(23), plam(loop(1)), times(23, loop(23), plam), transp(pos(1)), hcomp(zero, univ), hcomp(row{pos(1)}, loop(1)), node(api.HComp, univ, univ), sample.Balanced(20000)}
	for _, x := range terms {
		for name, call := range calls() {
			for _, i := range sample.NoDimensions() {
				for _, r := range []row{zero, one, {pos(1)}, {both(sample.Last, 1)}, sample.Pairs(64), {pos(1 << 24)}} {
					got, e := call(x, i, r)
					answer(t, name, got, e, api.Term{}, api.ErrArg)
				}
			}
			for _, r := range sample.WrongFormulas() {
				for _, i := range []int{0, 1, 22, 23, 24, -1} {
					got, e := call(x, i, r)
					answer(t, name, got, e, api.Term{}, api.ErrArg)
				}
			}
		}
		for _, c := range badClauses {
			got, e := Under(x, c)
			answer(t, "Under", got, e, api.Term{}, api.ErrArg)
		}
	}
	// All dimensions may be named, and a formula may have a clause that clashes, and all clauses that there may be.
	for i := range 24 {
		for _, r := range []row{{both(2, 2)}, {neg(2), pos(2)}, sample.Pairs(64)} {
			for name, call := range calls() {
				got, e := call(univ, i, r)
				answer(t, name, got, e, univ, api.OK)
			}
		}
		for _, c := range []api.Clause{pos(1 << i), neg(1 << i), both(sample.Full&^(1<<i), 1<<i)} {
			got, e := Under(univ, c)
			answer(t, "Under", got, e, univ, api.OK)
		}
	}
}

// A formula that can't be lifted behind so many binders is refused where a formula or face has i, and nowhere else.
func TestWhatCantBeLifted(t *testing.T) {
	for behind := range 24 {
		for last := range 24 {
			for i := range 24 {
				r := row{neg(1 << last)}
				want := api.OK
				if last+behind > 23 {
					want = api.ErrDims
				}
				there, lifted := i+behind, last+behind
				rows := func(f row) []api.Term {
					return []api.Term{loops(f...), transp(f...), glued(f, univ), with(node(api.PApp, univ, univ, univ), f), grown(glued(always, univ), f, univ)}
				}
				if there < 24 {
					after := rows(row{neg(1 << (lifted % 24))})
					for k, x := range rows(row{pos(1 << there)}) {
						got, e := Put(times(behind, x, plam), i, r)
						answer(t, "Put where i is", got, e, times(behind, after[k], plam), want)
					}
				}
				for _, near := range []int{there - 1, there + 1, 0} {
					if near < 0 || near > 23 || near == there {
						continue
					}
					for _, x := range rows(row{pos(1 << near)}) {
						got, e := Put(times(behind, x, plam), i, r)
						answer(t, "Put where i is not", got, e, times(behind, x, plam), api.OK)
					}
				}
			}
		}
	}
}

// Take lifts r first, whatever there is to put it into: a dimension from i on that is the last is refused. What is put behind binders is r as it was lifted.
func TestTakeOfWhatCantBeLifted(t *testing.T) {
	for _, x := range []api.Term{univ, variable(0), loops(), loop(0), loop(23), plam(loop(0)), transp(), hcomp(zero, univ), hcomp(row{pos(1)}, univ), node(api.Glue, univ)} {
		for i := range 24 {
			for _, r := range []row{{pos(sample.Last)}, {neg(sample.Last)}, {neg(sample.Last), pos(1)}, {both(sample.Last, sample.Last)}, {pos(sample.Full)}} {
				got, e := Take(x, i, r)
				answer(t, "Take", got, e, api.Term{}, api.ErrDims)
			}
		}
	}
	for _, x := range []struct {
		t    api.Term
		i    int
		r    row
		want api.Term
		e    api.Errno
	}{
		{loop(0), 0, row{pos(1 << 22)}, loop(22), api.OK}, {plam(loop(1)), 0, row{pos(1 << 21)}, plam(loop(22)), api.OK}, {plam(loop(1)), 0, row{pos(1 << 22)}, univ, api.ErrDims}, {plam(loop(0)), 0, row{pos(1 << 22)}, plam(loop(0)), api.OK}, {plam(loop(2)), 0, row{pos(1 << 22)}, plam(loop(1)), api.OK},
		{plam(loop(23)), 22, row{pos(1 << 21)}, plam(loop(22)), api.OK}, {plam(loop(23)), 22, row{pos(1 << 22)}, univ, api.ErrDims}, {plam(loop(22)), 22, row{pos(1 << 22)}, plam(loop(22)), api.OK}, {plam(loop(23)), 23, row{pos(1 << 22)}, plam(loop(23)), api.OK}, {loop(23), 23, row{pos(1 << 22)}, loop(22), api.OK},
		{times(22, loop(22), plam), 0, row{pos(1)}, times(22, loop(22), plam), api.OK}, {times(23, loop(23), plam), 0, row{pos(1)}, univ, api.ErrDims}, {times(23, loop(23), plam), 0, one, times(23, loops(one...), plam), api.OK},
	} {
		got, e := Take(x.t, x.i, x.r)
		answer(t, "Take", got, e, x.want, x.e)
	}
}

// sevenPairs is a formula whose Not has more clauses than there may be: seven dimensions, each joined with a neighbour.
func sevenPairs() row {
	var r row
	for k := range 7 {
		r = append(r, pos(3<<(2*k)))
	}
	return r
}

// What chapters 3 and 5 refuse of a formula or a face: too many clauses at the end or on the way, and what Not of r refuses, where there is an opposite of i.
func TestTooManyClauses(t *testing.T) {
	i := uint32(1 << 23)
	seven := sevenPairs()
	// 30 clauses of dimensions that those of Pairs(36) do not have.
	apart := sample.Met(sample.Pairs(30), pos(0))
	for k := range apart {
		apart[k].Pos <<= 9
	}
	wide := append(sample.Pairs(36), pos(i))
	for _, x := range []struct {
		f, r row
		want api.Errno
	}{
		{row{pos(i)}, sample.Pairs(64), api.OK}, {wide, apart[:28], api.OK}, {wide, apart[:29], api.ErrBig}, {wide, apart, api.ErrBig}, {sample.Pairs(64), apart, api.OK}, {row{pos(i)}, seven, api.OK}, {row{neg(i)}, seven[:6], api.OK}, {row{neg(i)}, seven, api.ErrBig}, {row{neg(i), pos(i)}, seven, api.ErrBig}, {row{both(1, i)}, seven, api.ErrBig},
	} {
		for name, call := range calls() {
			for kind, in := range map[string]api.Term{"Loop": loops(x.f...), "Transp": transp(x.f...), "a branch": glued(x.f, univ), "Merid": with(node(api.Merid, univ), x.f)} {
				got, e := call(in, 23, x.r)
				if e != x.want || e != api.OK && got.Kind != 0 {
					t.Errorf("%s of %s: %d, not %d", name, kind, e, x.want)
				}
			}
		}
	}
}

// Of two places that are refused, the one for lifting r, the other for what is put there, the first is told.
func TestWhichIsToldFirst(t *testing.T) {
	ways := []func(api.Term) api.Term{func(x api.Term) api.Term { return x }, fst, lam, func(x api.Term) api.Term { return glued(always, x) }}
	// Behind 12 binders of dimensions, and 13, there is i, and no room for r; an opposite of i, behind none and one, would become too great.
	far, opposite := times(12, loops(pos(3<<12)), plam), loops(neg(3))
	tried := 0
	for kind := api.Var; kind <= api.The; kind++ {
		_, rows := sample.Places(kind, func(int) row { return nil }, func(int) api.Term { return univ })
		for dim, isRow := range rows {
			for big := range rows {
				if isRow || big == dim {
					continue
				}
				for _, in := range ways {
					x, _ := sample.Places(kind, func(k int) row {
						if k == big {
							return row{neg(1)}
						}
						return always
					}, func(k int) api.Term {
						switch k {
						case dim:
							return in(far)
						case big:
							return in(opposite)
						}
						return univ
					})
					want := api.ErrBig
					if dim < big {
						want = api.ErrDims
					}
					tried++
					for name, call := range calls() {
						got, e := call(in(x), 0, sevenPairs())
						answer(t, name, got, e, api.Term{}, want)
					}
				}
			}
		}
	}
	if tried < 400 {
		t.Errorf("only %d were tried", tried)
	}
	// In one row r is lifted ahead of putting it there.
	got, e := Put(times(12, loops(neg(1<<12)), plam), 0, sevenPairs())
	answer(t, "Put", got, e, api.Term{}, api.ErrDims)
}

// Of a branch that goes only the face is looked at: its Kids are not refused. Those of one that stays are, and so is a face.
func TestBranchesThatGo(t *testing.T) {
	clash := row{both(sample.Last, sample.Last)}
	line := loop(1) // behind a binder it has i, and there is no room for r
	glue := func(f row) api.Term { return grown(node(api.Glue, univ), f, plam(line), plam(line)) }
	for _, x := range []struct {
		t    api.Term
		r    row
		want api.Term
		e    api.Errno
	}{
		{hcomp(row{pos(1)}, line), clash, node(api.HComp, univ, univ), api.OK}, {hcomp(zero, line), clash, node(api.HComp, univ, univ), api.OK}, {hcomp(row{pos(2)}, line), clash, univ, api.ErrDims}, {hcomp(row{neg(1)}, line), clash, univ, api.ErrDims}, {hcomp(always, line), clash, univ, api.ErrDims},
		{glue(row{pos(1)}), clash, node(api.Glue, univ), api.OK}, {glue(zero), clash, node(api.Glue, univ), api.OK}, {glue(row{neg(1), pos(1)}), clash, univ, api.ErrDims}, {glue(row{pos(1), pos(2)}), clash, univ, api.ErrDims},
		{grown(hcomp(row{pos(1)}, line), row{pos(2)}, univ), clash, hcomp(row{pos(2)}, univ), api.OK}, {grown(hcomp(row{pos(2)}, univ), row{pos(1)}, line), clash, hcomp(row{pos(2)}, univ), api.OK}, {grown(hcomp(row{pos(1)}, line), row{pos(2)}, line), clash, univ, api.ErrDims},
		{plam(hcomp(row{pos(2)}, univ)), clash, univ, api.ErrDims}, {glued(row{pos(1)}, plam(hcomp(row{pos(2)}, univ))), clash, node(api.MkGlue, univ), api.OK}, {glued(row{pos(1)}, loops(neg(1))), row{both(3, 2), both(12, 4), both(48, 16), both(192, 64), both(768, 256), both(3072, 1024), both(12288, 4096)}, node(api.MkGlue, univ), api.OK},
		{node(api.Transp, line, univ), clash, univ, api.ErrDims}, {with(node(api.Transp, line, univ), row{pos(1)}), clash, univ, api.ErrDims},
	} {
		got, e := Put(x.t, 0, x.r)
		answer(t, "Put", got, e, x.want, x.e)
	}
	// Take lifts r first; what goes then is as with Put.
	clash = row{both(1<<22, 1<<22)}
	got, e := Take(grown(hcomp(row{pos(1)}, line), row{pos(2)}, loop(2)), 0, clash)
	answer(t, "Take", got, e, hcomp(row{pos(1)}, loop(1)), api.OK)
	got, e = Take(grown(hcomp(row{pos(1)}, line), row{pos(2)}, line), 0, clash)
	answer(t, "Take", got, e, api.Term{}, api.ErrDims)
}

// A term as deep, and as great, as there may be is told; one with many great rows, too.
func TestJustNotTooGreat(t *testing.T) {
	for _, x := range []api.Term{times(199, univ, fst), times(199, univ, lam), times(199, univ, plam), sample.Balanced(20000)} {
		for name, call := range calls() {
			got, e := call(x, 1, row{pos(2)})
			answer(t, name, got, e, x, api.OK)
		}
		got, e := Under(x, both(1, 2))
		answer(t, "Under", got, e, x, api.OK)
	}
	many := sample.Bushy(20000)
	got, e := Put(many, 0, one)
	answer(t, "Put of many that are never", got, e, node(api.MkGlue, univ), api.OK)
	many, want := sample.Bushy(20000), sample.Bushy(20000)
	for k := range many.Sys {
		many.Sys[k].Face, want.Sys[k].Face = row{both(1, 4), pos(2)}, row{pos(2), both(sample.Last, 4)}
		if k%20 == 0 {
			great := sample.Pairs(64)
			many.Sys[k].Face = sample.Pairs(64)
			for c, l := range great {
				great[c].Pos = l.Pos&^1 | l.Pos&1<<23
			}
			want.Sys[k].Face = sample.Least(great)
		}
	}
	got, e = Put(many, 0, row{pos(sample.Last)})
	answer(t, "Put of many faces", got, e, want, api.OK)
}
