package plug

import (
	"testing"

	"hypercube/api"
	"hypercube/sample"
	"hypercube/term"
)

// bush tells a term of so many nodes, two deep, in which Var 0 stands so many times.
func bush(nodes, vars int) api.Term {
	t := sample.Bushy(nodes)
	for k := range vars {
		t.Sys[k].Kids[0] = variable(0)
	}
	return t
}

// P12.2: an answer of 20000 nodes, and of one more.
func TestGreat(t *testing.T) {
	for _, x := range []struct{ nodes, vars, put int }{
		{1000, 0, 20000}, {20000, 0, 20000}, {10001, 1, 10000}, {10000, 1, 10001}, {3, 1, 19998}, {20000, 1, 1}, {20000, 19998, 1}, {10002, 9998, 2}, {10002, 9999, 2}, {19999, 1, 2}, {20000, 1, 2}, {200, 100, 199}, {101, 99, 202}, {5000, 3, 5001}, {14997, 1667, 4}, {14998, 1667, 4}, {20000, 19998, 2}, {20000, 19998, 20000}, {3, 1, 19999},
	} {
		in, u := bush(x.nodes, x.vars), sample.Balanced(x.put)
		want := x.nodes + x.vars*(x.put-1)
		got, e := At(in, 0, u)
		switch {
		case want > 20000:
			answer(t, "At", got, e, api.Term{}, api.ErrSize)
		case e != api.OK || term.Size(got) != want:
			t.Errorf("At of %v: %d nodes, %d", x, term.Size(got), e)
		}
	}
	// A variable alone, and one that is bound, or next to it.
	got, e := At(variable(0), 0, sample.Balanced(20000))
	answer(t, "At", got, e, sample.Balanced(20000), api.OK)
	got, e = At(pair(lam(variable(0)), variable(1)), 0, sample.Balanced(20000))
	answer(t, "At", got, e, pair(lam(variable(0)), variable(0)), api.OK)
	got, e = At(pair(variable(0), lam(variable(1))), 0, sample.Balanced(9998))
	answer(t, "At", got, e, pair(sample.Balanced(9998), lam(sample.Balanced(9998))), api.OK)
	got, e = At(pair(variable(0), lam(variable(1))), 0, sample.Balanced(10000))
	answer(t, "At", got, e, api.Term{}, api.ErrSize)
}

// P12.2: just 20000 nodes and 20001, by one node in all ways.
func TestJustTooGreat(t *testing.T) {
	for _, vars := range []int{1, 2, 3, 9, 100, 999} {
		for _, put := range []int{1, 2, 3, 7, 20} {
			nodes := 20000 - vars*(put-1)
			got, e := At(bush(nodes, vars), 0, sample.Balanced(put))
			if e != api.OK || term.Size(got) != 20000 {
				t.Errorf("%d times %d: %d nodes, %d", vars, put, term.Size(got), e)
			}
			if nodes < 20000 {
				got, e = At(bush(nodes+1, vars), 0, sample.Balanced(put))
				answer(t, "At", got, e, api.Term{}, api.ErrSize)
			}
		}
	}
}

// P12.2: an answer that is 200 deep, and one that is deeper.
func TestDeep(t *testing.T) {
	ways := map[string]func(api.Term) api.Term{
		"Fst": fst, "PLam": plam, "the last of five": func(x api.Term) api.Term { return node(api.SuspEl, univ, univ, univ, univ, x) }, "the first of two": func(x api.Term) api.Term { return pair(x, univ) }, "a branch": branch,
		"the second branch": func(x api.Term) api.Term {
			return grown(grown(node(api.Glue, univ), row{{}}, univ, univ), nil, univ, x)
		},
	}
	for name, in := range ways {
		for _, outer := range []int{0, 1, 7, 99, 100, 198, 199} {
			for _, inner := range []int{198 - outer, 199 - outer, 200 - outer, 201 - outer, 199} {
				if inner < 0 || inner > 199 {
					continue
				}
				got, e := At(times(outer, variable(0), in), 0, times(inner, univ, fst))
				want := api.OK
				if outer+inner > 199 {
					want = api.ErrDeep
				}
				answer(t, name, got, e, times(outer, times(inner, univ, fst), in), want)
			}
		}
	}
}

// P12.2: how deep the variable stands counts, not how deep t is elsewhere; and only where it stands.
func TestDeepElsewhere(t *testing.T) {
	deep := times(198, univ, fst)
	for _, x := range []struct {
		t, u, want api.Term
		e          api.Errno
	}{
		{pair(deep, variable(0)), deep, pair(deep, deep), api.OK}, {pair(variable(0), deep), deep, pair(deep, deep), api.OK}, {pair(variable(0), deep), fst(deep), univ, api.ErrDeep}, {pair(variable(0), variable(0)), fst(deep), univ, api.ErrDeep}, {pair(variable(0), fst(variable(0))), deep, univ, api.ErrDeep}, {pair(fst(variable(0)), variable(0)), deep, univ, api.ErrDeep},
		{pair(variable(1), lam(variable(0))), fst(deep), pair(variable(0), lam(variable(0))), api.OK}, {fst(deep), fst(deep), fst(deep), api.OK}, {variable(0), fst(deep), fst(deep), api.OK}, {fst(variable(0)), fst(deep), univ, api.ErrDeep},
	} {
		got, e := At(x.t, 0, x.u)
		answer(t, "At", got, e, x.want, x.e)
	}
}

// P12.2: which of the refusals of putting is told: too great, then what is lifted too far, then too deep.
func TestOrderOfRefusals(t *testing.T) {
	far, beyond, deep, great := variable(billion+1), loop(23), times(199, univ, fst), sample.Balanced(10001)
	tall := pair(variable(0), times(190, variable(0), fst))
	for name, x := range map[string]struct {
		t, u api.Term
		want api.Errno
	}{
		"great and far": {pair(variable(0), variable(0)), pair(great, far), api.ErrSize}, "great and beyond": {plam(pair(variable(0), variable(0))), pair(great, beyond), api.ErrSize}, "great and deep": {tall, pair(great, times(100, univ, fst)), api.ErrSize}, "all": {plam(tall), pair(great, pair(far, pair(beyond, times(100, univ, fst)))), api.ErrSize},
		"far and deep": {fst(variable(0)), times(199, far, fst), api.ErrTerm}, "beyond and deep": {plam(variable(0)), times(199, beyond, fst), api.ErrDims}, "too deep first, far behind it": {pair(variable(0), lam(variable(1))), times(199, variable(billion), fst), api.ErrTerm}, "too deep first, beyond behind it": {pair(variable(0), plam(variable(0))), times(199, beyond, fst), api.ErrDims},
		"deep alone": {tall, deep, api.ErrDeep}, "great alone": {pair(variable(0), variable(0)), great, api.ErrSize},
	} {
		got, e := At(x.t, 0, x.u)
		answer(t, name, got, e, api.Term{}, x.want)
	}
}

// A term with many great faces, and one with a great formula that is put in behind many binders, are told in time.
func TestGreatRows(t *testing.T) {
	x, want := bush(20000, 19998), sample.Bushy(20000)
	for k := range x.Sys {
		x.Sys[k].Face, want.Sys[k].Face = sample.Pairs(64), sample.Pairs(64)
		x.Sys[k].Kids[0], want.Sys[k].Kids[0] = plam(variable(0)), plam(with(node(api.Loop), sample.Pairs(64)))
	}
	x.Sys, want.Sys = x.Sys[:9999], want.Sys[:9999]
	for k := range want.Sys {
		for c := range want.Sys[k].Kids[0].Kids[0].R {
			want.Sys[k].Kids[0].Kids[0].R[c].Pos <<= 1
		}
	}
	got, e := At(x, 0, with(node(api.Loop), sample.Pairs(64)))
	if e != api.OK || !term.Same(got, want) {
		t.Errorf("At of many great rows: %d", e)
	}
}
