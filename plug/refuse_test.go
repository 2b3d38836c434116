package plug

import (
	"math"
	"testing"

	"hypercube/api"
	"hypercube/sample"
)

// wrong is a term that is not formed, and what it is refused with.
type wrong struct {
	t api.Term
	e api.Errno
}

// wrongTerms tells such: too deep, too great, of a wrong form, and of several of these.
func wrongTerms() []wrong {
	deep, great := times(200, univ, fst), sample.Balanced(20001)
	return []wrong{
		{api.Term{}, api.ErrTerm}, {variable(-1), api.ErrTerm}, {variable(math.MinInt), api.ErrTerm}, {node(api.Lam), api.ErrTerm}, {lam(api.Term{Kind: 29}), api.ErrTerm}, {with(univ, row{{}}), api.ErrTerm}, {loop(24), api.ErrTerm}, {with(node(api.Loop), row{pos(1), pos(3)}), api.ErrTerm}, {pair(variable(0), node(api.Var, univ)), api.ErrTerm},
		{with(node(api.Transp, univ, univ), row{both(1, 1)}), api.ErrTerm}, {grown(node(api.Glue, univ), nil, univ), api.ErrTerm}, {grown(node(api.HComp, univ, univ), row{both(1, 1)}, univ), api.ErrTerm}, {grown(variable(0), nil, univ), api.ErrTerm}, {api.Term{Kind: api.Const, Name: "1"}, api.ErrTerm},
		{deep, api.ErrDeep}, {times(200, variable(0), fst), api.ErrDeep}, {great, api.ErrSize}, {sample.Bushy(20001), api.ErrSize}, {pair(great, deep), api.ErrDeep}, {pair(api.Term{}, great), api.ErrSize}, {pair(api.Term{}, deep), api.ErrDeep},
	}
}

// rightTerms tells terms that are formed, some of them refused where they are lifted, or where they are put into one another.
func rightTerms() []api.Term {
	return []api.Term{univ, variable(0), variable(math.MaxInt), loop(23), lam(variable(1)), plam(variable(0)), pair(variable(billion+1), loop(23)), sample.Balanced(20000), times(199, variable(0), fst)}
}

// numbers are those that n may be, and those that it may not.
var numbers = []int{0, 1, 7, billion, math.MaxInt, -1, -2, math.MinInt}

// P12.1, P12.2: what Formed refuses of t is told, whatever u and n are; then what it refuses of u, whether the variable stands there or not.
func TestNotFormed(t *testing.T) {
	for _, x := range wrongTerms() {
		for _, n := range numbers {
			counted(t, x.t, n, 0, x.e)
			for _, y := range wrongTerms() {
				got, e := At(x.t, n, y.t)
				answer(t, "At of two that are not formed", got, e, api.Term{}, x.e)
			}
			for _, y := range rightTerms() {
				got, e := At(x.t, n, y)
				answer(t, "At of t that is not formed", got, e, api.Term{}, x.e)
				got, e = At(y, n, x.t)
				answer(t, "At of u that is not formed", got, e, api.Term{}, x.e)
			}
		}
	}
}

// A term that has itself has no end: it is too deep, and that is told. (It is not written out: that would have no end either.)
func TestATermThatHasItself(t *testing.T) {
	ring := make([]api.Term, 2)
	ring[0], ring[1] = pair(univ, univ), variable(0)
	ring[0].Kids = ring
	for _, n := range numbers {
		times, e := Count(ring[0], n)
		_, ofT := At(ring[0], n, univ)
		_, ofU := At(variable(0), n, ring[0])
		_, ofBoth := At(ring[0], n, ring[0])
		if times != 0 || e != api.ErrDeep || ofT != api.ErrDeep || ofU != api.ErrDeep || ofBoth != api.ErrDeep {
			t.Errorf("at %d: %d, %d, %d, %d, %d", n, times, e, ofT, ofU, ofBoth)
		}
	}
}

// P12.1, P12.2: an n below 0 is refused ahead of all that putting refuses.
func TestNumbersBelow0(t *testing.T) {
	for _, n := range []int{-1, -2, -199, -200, math.MinInt + 1, math.MinInt} {
		for _, x := range append(rightTerms(), lam(variable(0)), times(199, variable(0), lam)) {
			counted(t, x, n, 0, api.ErrArg)
			for _, u := range rightTerms() {
				got, e := At(x, n, u)
				answer(t, "At", got, e, api.Term{}, api.ErrArg)
			}
		}
	}
}

// P12.2: what is put in is lifted as far as it can be, and not further.
func TestWhatIsLiftedTooFar(t *testing.T) {
	for _, x := range []struct {
		t, u, want api.Term
		e          api.Errno
	}{
		{lam(lam(lam(variable(3)))), variable(billion - 3), lam(lam(lam(variable(billion)))), api.OK}, {lam(lam(lam(variable(3)))), variable(billion - 2), univ, api.ErrTerm}, {times(199, variable(199), lam), variable(billion - 199), times(199, variable(billion), lam), api.OK}, {times(199, variable(199), lam), variable(billion - 198), univ, api.ErrTerm},
		{times(23, variable(0), plam), loop(0), times(23, loop(23), plam), api.OK}, {times(24, variable(0), plam), loop(0), univ, api.ErrDims}, {plam(variable(0)), loop(22), plam(loop(23)), api.OK}, {plam(variable(0)), loop(23), univ, api.ErrDims}, {branch(variable(0)), loop(22), branch(loop(23)), api.OK}, {branch(variable(0)), loop(23), univ, api.ErrDims},
		{plam(variable(0)), fst(with(node(api.Transp, univ, univ), row{neg(sample.Last)})), univ, api.ErrDims}, {plam(variable(0)), grown(node(api.MkGlue, univ), row{pos(sample.Last)}, univ), univ, api.ErrDims},
		// What binds another sort does not lift it, and what it binds itself is not lifted.
		{lam(variable(1)), loop(23), lam(loop(23)), api.OK}, {plam(variable(0)), variable(billion), plam(variable(billion)), api.OK}, {times(190, variable(0), plam), plam(loop(0)), times(190, plam(loop(0)), plam), api.OK},
		// A variable too great to be lifted by 0 is refused behind no binder, too.
		{variable(0), variable(billion), variable(billion), api.OK}, {variable(0), variable(billion + 1), univ, api.ErrTerm}, {variable(0), variable(math.MaxInt), univ, api.ErrTerm}, {pair(univ, variable(0)), fst(variable(billion + 1)), univ, api.ErrTerm}, {plam(variable(0)), variable(billion + 1), univ, api.ErrTerm}, {plam(variable(0)), pair(loop(23), variable(billion+1)), univ, api.ErrTerm},
		// Where the variable does not stand nothing is lifted.
		{variable(1), variable(billion + 1), variable(0), api.OK}, {lam(variable(0)), variable(math.MaxInt), lam(variable(0)), api.OK}, {lam(variable(2)), variable(billion), lam(variable(1)), api.OK}, {plam(loop(0)), loop(23), plam(loop(0)), api.OK}, {pair(variable(0), plam(variable(1))), loop(23), pair(loop(23), plam(variable(0))), api.OK}, {pair(variable(0), lam(variable(0))), variable(billion), pair(variable(billion), lam(variable(0))), api.OK},
		// Nor are t's own variables and dimensions.
		{pair(variable(0), variable(math.MaxInt)), univ, pair(univ, variable(math.MaxInt-1)), api.OK}, {lam(pair(variable(1), variable(billion+2))), univ, lam(pair(univ, variable(billion+1))), api.OK}, {plam(pair(variable(0), loop(23))), univ, plam(pair(univ, loop(23))), api.OK},
	} {
		got, e := At(x.t, 0, x.u)
		answer(t, "At", got, e, x.want, x.e)
	}
}

// refused tells what the term of the test below is refused with behind so many binders.
func refused(vars, dims int) api.Errno {
	switch {
	case vars > 0: // Both asks the variables first
		return api.ErrTerm
	case dims > 0:
		return api.ErrDims
	}
	return api.OK
}

// P12.2: of all places where the variable stands the first that is refused is told, in each kind of node: Kids, then branches.
func TestWhichIsToldFirst(t *testing.T) {
	u := pair(loop(23), variable(billion))
	ways := []func(api.Term) api.Term{fst, lam, plam}
	seen := map[api.Errno]int{}
	for kind := api.Var + 2; kind <= api.The; kind++ {
		f := sample.Forms()[kind]
		letters := f.Kids + f.Branch + f.Branch
		for chosen := range powerOf3(len(letters)) {
			want, at := api.OK, 0
			x, _ := sample.Places(kind, func(int) row { return nil }, func(int) api.Term {
				way := chosen / powerOf3(at) % 3
				vars, dims := sample.Inside(letters[at], 0, 0)
				vars, dims = sample.Inside("-xi"[way], vars, dims)
				at++
				if want == api.OK {
					want = refused(vars, dims)
				}
				return ways[way](variable(vars))
			})
			got, e := At(x, 0, u)
			if e != want || e != api.OK && got.Kind != 0 {
				t.Errorf("At(%v) = %v, %d, not %d", x, got, e, want)
			}
			seen[e]++
		}
	}
	if seen[api.OK] < 15 || seen[api.ErrTerm] < 500 || seen[api.ErrDims] < 200 {
		t.Errorf("too few to tell: %v", seen)
	}
}

func powerOf3(n int) int {
	power := 1
	for range n {
		power *= 3
	}
	return power
}

// P12.2: what stands inside the first part is told ahead of the second, however deep.
func TestWhichIsToldFirstInside(t *testing.T) {
	u := pair(loop(23), variable(billion))
	term, dims := lam(variable(1)), plam(variable(0))
	for _, x := range []struct {
		t    api.Term
		want api.Errno
	}{
		{pair(pair(univ, fst(fst(term))), dims), api.ErrTerm}, {pair(pair(univ, fst(fst(dims))), term), api.ErrDims}, {pair(pair(variable(0), variable(0)), pair(dims, term)), api.ErrDims}, {pair(pair(variable(0), variable(0)), pair(term, dims)), api.ErrTerm},
		{grown(node(api.Unglue, dims), nil, term), api.ErrDims}, {grown(node(api.Unglue, term), nil, dims), api.ErrTerm}, {grown(grown(node(api.Unglue, univ), nil, times(100, dims, fst)), nil, term), api.ErrDims}, {grown(grown(node(api.Unglue, univ), nil, times(100, term, fst)), nil, dims), api.ErrTerm},
	} {
		got, e := At(x.t, 0, u)
		answer(t, "At", got, e, api.Term{}, x.want)
	}
}
