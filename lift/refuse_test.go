package lift

import (
	"math"
	"testing"

	"hypercube/api"
	"hypercube/sample"
)

// calls tells all three, by their names.
func calls() map[string]func(api.Term, int, int) (api.Term, api.Errno) {
	return map[string]func(api.Term, int, int) (api.Term, api.Errno){"Vars": Vars, "Dims": Dims, "Both": Both}
}

// badNumbers are two numbers each, of which one may not be in any call.
var badNumbers = [][2]int{{-1, 0}, {0, -1}, {-1, -1}, {math.MinInt, 0}, {0, math.MinInt}, {-1, 1000001}, {1000001, -1}, {math.MaxInt, math.MinInt}, {math.MinInt, math.MaxInt}}

// What Formed refuses is told, ahead of all that is wrong with numbers.
func TestNotFormed(t *testing.T) {
	deep, great := times(200, univ, fst), sample.Balanced(20001)
	for _, x := range []struct {
		t    api.Term
		want api.Errno
	}{
		{api.Term{}, api.ErrTerm}, {variable(-1), api.ErrTerm}, {node(api.Lam), api.ErrTerm}, {lam(api.Term{Kind: 29}), api.ErrTerm}, {with(univ, row{{}}), api.ErrTerm}, {with(node(api.Loop), row{pos(1 << 24)}), api.ErrTerm}, {with(node(api.Loop), row{pos(1), pos(3)}), api.ErrTerm},
		{with(node(api.Transp, univ, univ), row{both(1, 1)}), api.ErrTerm}, {grown(node(api.Glue, univ), nil, univ), api.ErrTerm}, {grown(node(api.HComp, univ, univ), row{both(1, 1)}, univ), api.ErrTerm}, {api.Term{Kind: api.Const, Name: "1"}, api.ErrTerm},
		{deep, api.ErrDeep}, {great, api.ErrSize}, {node(api.Pair, great, deep), api.ErrDeep}, {node(api.Pair, api.Term{}, great), api.ErrSize}, {sample.Bushy(20001), api.ErrSize},
		// A variable, or a dimension, that a lift refuses stands ahead of what is not formed.
		{node(api.Pair, variable(billion+1), api.Term{}), api.ErrTerm}, {node(api.Pair, loop(23), api.Term{}), api.ErrTerm}, {node(api.Pair, loop(23), deep), api.ErrDeep},
	} {
		for name, call := range calls() {
			for _, at := range append(badNumbers, [2]int{0, 0}, [2]int{0, 1}, [2]int{1, 0}, [2]int{3, 1000000}) {
				got, e := call(x.t, at[0], at[1])
				answer(t, name, got, e, api.Term{}, x.want)
			}
		}
	}
}

// A term as deep, and as great, as there may be is lifted.
func TestJustNotTooGreat(t *testing.T) {
	for name, call := range calls() {
		for _, x := range []api.Term{times(199, univ, fst), times(199, univ, lam), times(199, univ, plam), sample.Balanced(20000), sample.Bushy(20000)} {
			got, e := call(x, 1, 1)
			answer(t, name, got, e, x, api.OK)
		}
	}
	many := sample.Bushy(20000)
	want := sample.Bushy(20000)
	for k := range many.Sys {
		many.Sys[k].Face, want.Sys[k].Face = sample.Pairs(64), shifted(sample.Pairs(64), 12)
	}
	got, e := Dims(many, 0, 12)
	answer(t, "Dims of many great faces", got, e, want, api.OK)
}

// Numbers that may not be are refused, ahead of all lifting.
func TestBadNumbers(t *testing.T) {
	terms := []api.Term{univ, variable(0), loop(0), node(api.Pair, variable(billion), loop(23)), node(api.Pair, loop(23), variable(math.MaxInt)), lam(variable(0)), sample.Balanced(20000)}
	for _, x := range terms {
		for name, call := range calls() {
			for _, at := range badNumbers {
				got, e := call(x, at[0], at[1])
				answer(t, name, got, e, api.Term{}, api.ErrArg)
			}
		}
		for _, much := range []int{1000001, 1000002, billion, math.MaxInt - 1, math.MaxInt} {
			for _, other := range []int{0, 1, 24, 1000001, math.MaxInt} {
				got, e := Vars(x, other, much)
				answer(t, "Vars", got, e, api.Term{}, api.ErrArg)
				got, e = Dims(x, other, much)
				answer(t, "Dims", got, e, api.Term{}, api.ErrArg)
				got, e = Both(x, much, other)
				answer(t, "Both", got, e, api.Term{}, api.ErrArg)
			}
		}
	}
	for _, much := range []int{1000001, math.MaxInt} {
		for _, x := range []api.Term{univ, loop(0), loop(23), variable(billion - 7)} {
			got, e := Both(x, 7, much)
			answer(t, "Both", got, e, api.Term{}, api.ErrArg)
		}
		// The lift of dimensions refuses that, so it stands behind what that of variables refuses.
		got, e := Both(variable(billion), 1, much)
		answer(t, "Both", got, e, api.Term{}, api.ErrTerm)
	}
	for _, x := range []api.Term{univ, lam(variable(0)), plam(loop(0))} {
		for name, call := range calls() {
			got, e := call(x, 1000000, 1000000)
			answer(t, name, got, e, x, api.OK)
		}
	}
}

// P11.2: of two places that are refused, for a dimension and for a variable, the first is told.
func TestWhichIsToldFirst(t *testing.T) {
	ways := []func(api.Term) api.Term{func(x api.Term) api.Term { return x }, fst, lam, plam, func(x api.Term) api.Term { return grown(node(api.HComp, univ, univ), nil, x) }}
	tried := 0
	for kind := api.Var; kind <= api.The; kind++ {
		_, rows := sample.Places(kind, func(int) row { return nil }, func(int) api.Term { return univ })
		for dim := range rows {
			for v, isRow := range rows {
				if isRow || v == dim {
					continue
				}
				for _, in := range ways {
					x, _ := sample.Places(kind, func(k int) row {
						if k == dim {
							return row{neg(sample.Last)}
						}
						return row{{}}
					}, func(k int) api.Term {
						switch k {
						case dim:
							return in(loop(23))
						case v:
							return in(variable(billion + 1))
						}
						return univ
					})
					want := api.ErrTerm
					if dim < v {
						want = api.ErrDims
					}
					tried++
					got, e := Dims(in(x), 0, 1)
					answer(t, "Dims", got, e, api.Term{}, want)
					// Both asks all variables first.
					got, e = Both(in(x), 0, 1)
					answer(t, "Both", got, e, api.Term{}, api.ErrTerm)
				}
			}
		}
	}
	if tried < 500 {
		t.Errorf("only %d were tried", tried)
	}
}

// P11.2: a variable that is above the last one is refused, whatever is lifted, and wherever it stands; one that is the last is not.
func TestVariablesOfDims(t *testing.T) {
	for _, in := range []func(api.Term) api.Term{func(x api.Term) api.Term { return x }, fst, lam, plam, func(x api.Term) api.Term { return times(198, x, lam) }} {
		for _, at := range [][2]int{{0, 0}, {0, 1}, {7, 0}, {24, 1000000}, {math.MaxInt, 1}, {math.MaxInt, 0}} {
			got, e := Dims(in(variable(billion)), at[0], at[1])
			answer(t, "Dims", got, e, in(variable(billion)), api.OK)
			for _, n := range []int{billion + 1, billion + 2, math.MaxInt} {
				got, e = Dims(in(variable(n)), at[0], at[1])
				answer(t, "Dims", got, e, api.Term{}, api.ErrTerm)
			}
		}
	}
}

// P11.3.

func TestBoth(t *testing.T) {
	x := lam(plam(node(api.Pair, node(api.Pair, variable(0), variable(1)), node(api.Pair, loop(0), loop(1)))))
	want := lam(plam(node(api.Pair, node(api.Pair, variable(0), variable(6)), node(api.Pair, loop(0), loop(3)))))
	got, e := Both(x, 5, 2)
	answer(t, "Both", got, e, want, api.OK)
	got, e = Both(variable(0), 1000000, 1000000)
	answer(t, "Both", got, e, variable(1000000), api.OK)
	got, e = Both(loop(0), 1000000, 23)
	answer(t, "Both", got, e, loop(23), api.OK)
	got, e = Both(loop(0), 0, 24)
	answer(t, "Both", got, e, api.Term{}, api.ErrDims)
	got, e = Both(node(api.Pair, loop(23), variable(billion-1)), 1, 0)
	answer(t, "Both", got, e, node(api.Pair, loop(23), variable(billion)), api.OK)
	got, e = Both(node(api.Pair, loop(23), variable(billion-1)), 1, 1)
	answer(t, "Both", got, e, api.Term{}, api.ErrDims)
	got, e = Both(node(api.Pair, loop(23), variable(billion)), 1, 1)
	answer(t, "Both", got, e, api.Term{}, api.ErrTerm)
	got, e = Both(node(api.Pair, loop(23), variable(billion+1)), 0, 0)
	answer(t, "Both", got, e, api.Term{}, api.ErrTerm)
}
