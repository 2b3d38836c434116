package term

import (
	"math"
	"testing"

	"hypercube/api"
	"hypercube/sample"
)

// P10.4.

func TestUses(t *testing.T) {
	a := node(api.App, variable(1), lam(variable(2)))
	for _, x := range []struct {
		t    api.Term
		uses []int
	}{
		{univ, nil}, {variable(0), []int{0}}, {variable(7), []int{7}}, {lam(variable(0)), nil}, {lam(variable(1)), []int{0}}, {times(5, variable(7), lam), []int{2}}, {times(8, variable(7), lam), nil},
		{a, []int{1}}, {node(api.App, variable(1), lam(variable(1))), []int{0, 1}}, {node(api.App, univ, lam(variable(2))), []int{1}}, {node(api.App, variable(1), univ), []int{1}},
		{node(api.Pi, variable(0), variable(0)), []int{0}}, {node(api.Pi, univ, variable(0)), nil}, {node(api.Sigma, univ, variable(3)), []int{2}},
		{node(api.SuspEl, variable(3), variable(4), variable(5), variable(6), variable(7)), []int{2, 4, 5, 6, 7}}, {node(api.CircleEl, variable(3), variable(4), variable(5), variable(6)), []int{2, 4, 5, 6}},
		{plam(variable(0)), []int{0}}, {node(api.Path, variable(0), variable(1), variable(2)), []int{0, 1, 2}},
		{grown(node(api.HComp, variable(0), variable(1)), nil, variable(2)), []int{0, 1, 2}}, {grown(grown(node(api.Glue, univ), nil, variable(0), variable(2)), nil, variable(4), variable(6)), []int{0, 2, 4, 6}},
		{lam(grown(node(api.MkGlue, univ), nil, variable(1))), []int{0}}, {variable(math.MaxInt), []int{math.MaxInt}}, {lam(variable(math.MaxInt)), []int{math.MaxInt - 1}},
		{loop(3), nil}, {api.Term{Kind: api.Const, Name: "c"}, nil},
	} {
		want := map[int]bool{}
		for _, n := range x.uses {
			want[n] = true
		}
		for _, n := range []int{0, 1, 2, 3, 4, 5, 6, 7, 8, -1, -2, -7, math.MaxInt, math.MaxInt - 1, math.MinInt, math.MinInt + 1} {
			if got := Uses(x.t, n); got != want[n] {
				t.Errorf("Uses(%v, %d) = %v", x.t, n, got)
			}
		}
	}
}

func TestDims(t *testing.T) {
	for _, x := range []struct {
		t    api.Term
		want uint32
	}{
		{univ, 0}, {variable(3), 0}, {loop(0), 1}, {loop(23), sample.Last}, {plam(loop(0)), 0}, {plam(loop(1)), 1}, {plam(plam(loop(5))), 8}, {times(23, loop(23), plam), 1}, {times(24, loop(23), plam), 0}, {times(40, loop(23), plam), 0}, {times(190, loop(23), plam), 0},
		{lam(loop(2)), 4}, {with(node(api.PApp, loop(1), loop(2), loop(3)), row{both(1, 16)}), 31}, {with(node(api.Merid, loop(1)), row{neg(32)}), 34}, {with(node(api.Loop), row{both(1, 2), both(4, 4)}), 7},
		{node(api.Path, loop(3), loop(4), loop(5)), 4 | 16 | 32}, {with(node(api.Transp, loop(3), loop(4)), row{neg(1), pos(1), pos(64)}), 4 | 16 | 64 | 1}, {with(node(api.Transp, loop(0), univ), row{pos(2)}), 2},
		{grown(node(api.HComp, loop(1), loop(2)), row{both(8, 16)}, loop(6)), 2 | 4 | 8 | 16 | 32}, {grown(node(api.HComp, univ, univ), row{pos(1)}, loop(0)), 1}, {grown(node(api.HComp, univ, univ), nil, loop(0)), 0},
		{grown(node(api.Glue, loop(1)), row{neg(8)}, loop(5), loop(6)), 2 | 8 | 32 | 64}, {grown(node(api.MkGlue, loop(1)), row{neg(8)}, loop(5)), 2 | 8 | 32}, {grown(grown(node(api.Unglue, univ), row{pos(1)}, univ), row{pos(2)}, loop(5)), 3 | 32},
		{plam(grown(node(api.HComp, univ, univ), row{pos(4)}, loop(6))), 2 | 16}, {plam(grown(node(api.Unglue, univ), row{pos(4)}, loop(6))), 2 | 32}, {with(node(api.Loop), nil), 0}, {with(node(api.Loop), row{{}}), 0},
		{with(node(api.Loop), row{pos(sample.Full)}), sample.Full}, {plam(with(node(api.Loop), row{neg(sample.Full)})), sample.Full >> 1},
	} {
		if got := Dims(x.t); got != x.want {
			t.Errorf("Dims(%v) = %#x, not %#x", x.t, got, x.want)
		}
	}
}

// found tells the variables and the dimensions of a term's outside by another road: by the letters of the kinds' forms, each number held against its binders one by one.
func found(t api.Term, forms map[int]sample.Form, vars, dims int, have map[int]bool, set map[int]bool) {
	note := func(r row) {
		for _, c := range r {
			for i := range api.MaxDims {
				if (c.Pos|c.Neg)>>i&1 == 1 && i >= dims {
					set[i-dims] = true
				}
			}
		}
	}
	if t.Kind == api.Var && t.N >= vars {
		have[t.N-vars] = true
	}
	note(t.R)
	f := forms[t.Kind]
	for k, kid := range t.Kids {
		v, d := sample.Inside(f.Kids[k], vars, dims)
		found(kid, forms, v, d, have, set)
	}
	for _, b := range t.Sys {
		note(b.Face)
		for k, kid := range b.Kids {
			v, d := sample.Inside(f.Branch[k], vars, dims)
			found(kid, forms, v, d, have, set)
		}
	}
}

func TestUsesAndDimsOfMany(t *testing.T) {
	used, unused := 0, 0
	for _, x := range terms(6000) {
		have, set := map[int]bool{}, map[int]bool{}
		found(x, sample.Forms(), 0, 0, have, set)
		for n := -3; n < 12; n++ {
			if Uses(x, n) != have[n] {
				t.Fatalf("Uses(%v, %d) = %v", x, n, !have[n])
			}
		}
		var want uint32
		for i := range set {
			want |= 1 << i
		}
		if got := Dims(x); got != want {
			t.Fatalf("Dims(%v) = %#x, not %#x", x, got, want)
		}
		used, unused = used+len(have), unused+24-len(set)
	}
	if used < 1000 || unused < 1000 {
		t.Errorf("too few to tell: %d, %d", used, unused)
	}
}

// Whatever they are given, the calls end: no answer is promised of what is not formed.
func TestCallsOfWhatIsNotFormed(t *testing.T) {
	for _, x := range []api.Term{{}, node(-1, univ), variable(-1), lam(variable(math.MinInt)), times(65535, variable(0), lam), times(65535, loop(0), plam), grown(univ, row{pos(1 << 31)}, univ), {Kind: api.Loop, R: row{both(math.MaxUint32, 1<<24)}}, wide(100000)} {
		for _, n := range []int{-1, 0, 1, math.MaxInt, math.MinInt} {
			Uses(x, n)
		}
		if got := Dims(x); got > sample.Full {
			t.Errorf("Dims = %#x", got)
		}
	}
	for _, x := range []api.Term{variable(-1), lam(variable(math.MinInt)), lam(lam(variable(-2)))} {
		for _, n := range []int{-1, -2, -4, math.MinInt, math.MaxInt, math.MaxInt - 1} {
			if Uses(x, n) {
				t.Errorf("Uses(%v, %d)", x, n)
			}
		}
	}
}
