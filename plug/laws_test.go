package plug

import (
	"reflect"
	"testing"

	"hypercube/api"
	"hypercube/lift"
	"hypercube/sample"
	"hypercube/term"
)

// P12.3.

// A term that does not use n is as it was, whatever is put there.
func TestWhatIsNotUsed(t *testing.T) {
	put := []api.Term{univ, variable(0), variable(billion + 1), loop(23), lam(pair(variable(0), variable(5))), sample.Balanced(20000), times(199, univ, fst)}
	for seed, x := range sample.GrownTerms(3000) {
		for n := range 7 {
			lifted, e := lift.Vars(x.T, n, 1)
			if e != api.OK || term.Uses(lifted, n) {
				t.Fatalf("%v was not lifted", x.T)
			}
			u := put[(seed+n)%len(put)]
			got, e := At(lifted, n, u)
			answer(t, "At of one that was lifted", got, e, x.T, api.OK)
			counted(t, lifted, n, 0, api.OK)
			if n >= x.Vars {
				got, e = At(x.T, n, u)
				answer(t, "At of a variable that there is not", got, e, x.T, api.OK)
			}
		}
	}
}

// A variable is counted just if it is used, and is none of those that are told then; those of the outside are, each where it is now, and so are those of the term that was put in.
func TestWhatIsUsed(t *testing.T) {
	for seed, x := range sample.GrownTerms(2000) {
		u := sample.Grow(uint32(seed)+7000).Term(6, 8, 9)
		for n := range 6 {
			times, e := Count(x.T, n)
			if e != api.OK || times > 0 != term.Uses(x.T, n) {
				t.Fatalf("Count(%v, %d) = %d, %d", x.T, n, times, e)
			}
			got, e := At(x.T, n, u)
			if e != api.OK {
				t.Fatalf("At(%v, %d, %v) is refused: %d", x.T, n, u, e)
			}
			for k := range 7 {
				before := k
				if k >= n {
					before++
				}
				ofX, _ := Count(x.T, before)
				ofU, _ := Count(u, k)
				counted(t, got, k, ofX+times*ofU, api.OK)
			}
		}
		if t.Failed() {
			t.Fatalf("the seed %d: %v", seed, x.T)
		}
	}
}

// told is an answer, or a refusal, that the next call begins with.
type told struct {
	t api.Term
	e api.Errno
}

func (x told) at(n int, u told) told {
	for _, e := range []api.Errno{x.e, u.e} {
		if e != api.OK {
			return told{e: e}
		}
	}
	out, e := At(x.t, n, u.t)
	return told{out, e}
}

func (x told) lifted(from int) told {
	out, e := lift.Vars(x.t, from, 1)
	return told{out, e}
}

// The lemma of substitution: u put for n and then w for m is w put for what m was, and then u, with w put in it, for what n is then.
func TestLemmaOfSubstitution(t *testing.T) {
	done, used := 0, 0
	for seed := range uint32(4000) {
		g := sample.Grow(seed)
		x, u, w := told{t: g.Term(3, 6, g.Below(90))}, told{t: g.Term(2, 6, g.Below(40))}, told{t: g.Term(2, 6, g.Below(12))}
		for n := range 3 {
			for m := range 3 {
				one := x.at(n, u).at(m, w)
				wasM, isN := m, n-1
				if m >= n {
					wasM, isN = m+1, n
				}
				// w stands where there is no n: there it is among those that do.
				other := x.at(wasM, w.lifted(isN)).at(isN, u.at(m, w))
				if one.e != api.OK || other.e != api.OK {
					continue
				}
				answer(t, "the lemma", one.t, one.e, other.t, other.e)
				done++
				if term.Uses(x.t, n) && term.Uses(x.t, wasM) && term.Uses(u.t, m) {
					used++
				}
			}
		}
		if t.Failed() {
			t.Fatalf("the seed %d: %v, %v, %v", seed, x, u, w)
		}
	}
	if done < 30000 || used < 1500 {
		t.Errorf("too few to tell: %d, %d", done, used)
	}
}

// What is put into a term that may be, of a term that may be, may be, if there is room for all dimensions that are bound.
func TestMayBe(t *testing.T) {
	done := 0
	for seed := range uint32(6000) {
		g := sample.Grow(seed)
		vars, dims := 1+g.Below(5), g.Below(12)
		x, u := g.Term(vars, dims, g.Below(50)), g.Term(vars-1, dims, g.Below(20))
		if term.Right(u, vars-1, api.MaxDims-6) != api.OK || term.Right(x, vars, api.MaxDims-6) != api.OK {
			continue
		}
		for n := range vars {
			got, e := At(x, n, u)
			if e != api.OK || term.Right(got, vars-1, dims) != api.OK || !sample.MayBe(got, vars-1, dims) {
				t.Fatalf("At(%v, %d, %v) = %v, %d: it may not be in %d and %d", x, n, u, got, e, vars-1, dims)
			}
			done++
		}
	}
	if done < 5000 {
		t.Errorf("only %d were told", done)
	}
}

// A term's variable that is put for itself: t, lifted ahead of n, with n put in its place, is t.
func TestAVariableForItself(t *testing.T) {
	for _, x := range sample.GrownTerms(2000) {
		for n := range 6 {
			lifted, _ := lift.Vars(x.T, n+1, 1)
			got, e := At(lifted, n, variable(n))
			answer(t, "At", got, e, x.T, api.OK)
		}
	}
}

// The rules that hold everywhere: what is handed in stays as it is, its spare room too, and what lies there is not read; what is handed out is of its own memory.
func TestMemory(t *testing.T) {
	for seed, x := range sample.GrownTerms(2000) {
		u := sample.Grow(uint32(seed)+9000).Term(4, 14, 12)
		for n := range 3 {
			roomyT, roomyU := sample.Roomy(x.T), sample.Roomy(u)
			beforeT, beforeU := sample.Whole(roomyT), sample.Whole(roomyU)
			want, wantE := At(x.T, n, u)
			got, e := At(roomyT, n, roomyU)
			answer(t, "At", got, e, want, wantE)
			if !reflect.DeepEqual(sample.Plain(sample.Whole(got)), sample.Plain(sample.Whole(want))) {
				t.Fatalf("At(%v, %d, %v): what lies in the spare room was handed out", x.T, n, u)
			}
			if twice := sample.Spoil([]api.Term{got}); twice > 0 {
				t.Fatalf("At(%v, %d, %v): lists of one answer share memory", x.T, n, u)
			}
			times, _ := Count(x.T, n)
			counted(t, roomyT, n, times, api.OK)
			if !reflect.DeepEqual(beforeT, sample.Whole(roomyT)) || !reflect.DeepEqual(beforeU, sample.Whole(roomyU)) {
				t.Fatalf("At(%v, %d, %v): what was handed in was changed, or handed out", x.T, n, u)
			}
			got, e = At(roomyT, n, roomyU)
			answer(t, "At again", got, e, want, wantE)
		}
	}
}

// What is refused on the way has changed nothing either.
func TestMemoryOfWhatIsRefused(t *testing.T) {
	x := pair(pair(variable(0), variable(3)), plam(pair(variable(0), loop(1))))
	for _, u := range []api.Term{loop(23), variable(billion + 1), times(199, univ, fst), sample.Balanced(15000)} {
		roomyT, roomyU := sample.Roomy(x), sample.Roomy(u)
		beforeT, beforeU := sample.Whole(roomyT), sample.Whole(roomyU)
		got, e := At(roomyT, 0, roomyU)
		if e == api.OK || got.Kind != 0 || got.Kids != nil || !reflect.DeepEqual(beforeT, sample.Whole(roomyT)) || !reflect.DeepEqual(beforeU, sample.Whole(roomyU)) {
			t.Errorf("At of what is refused: %d", e)
		}
	}
}

// Parts that stand in two places of one term, and a term that is put into itself, or into what has it, are each told for themselves.
func TestWhatIsShared(t *testing.T) {
	part := grown(grown(node(api.HComp, variable(1), lam(variable(1))), row{neg(1)}, loop(1)), row{neg(2)}, variable(0))
	x := grown(grown(node(api.Glue, part), part.Sys[0].Face, part, part), part.Sys[0].Face, part, part)
	for n := range 3 {
		for _, u := range []api.Term{x, part, part.Kids[1], part.Sys[0].Kids[0], univ} {
			before := term.Copy(x)
			got, e := At(x, n, u)
			want, wantE := atModel(before, n, term.Copy(u))
			answer(t, "At", got, e, want, wantE)
			if e != api.OK || sample.Spoil([]api.Term{got}) > 0 || !term.Same(x, before) {
				t.Errorf("At(%v, %d): parts share memory, or were changed", x, n)
			}
		}
	}
}

// A list without an element may be nil or empty.
func TestEmptyLists(t *testing.T) {
	for seed, x := range append(sample.GrownTerms(1000), sample.Scoped{T: univ}, sample.Scoped{T: variable(0)}, sample.Scoped{T: node(api.Loop)}, sample.Scoped{T: grown(node(api.MkGlue, variable(0)), nil, variable(0))}) {
		u := sample.Grow(uint32(seed)).Term(3, 8, 10)
		for n := range 2 {
			want, wantE := At(x.T, n, u)
			for _, y := range []told{{t: x.T}, {t: sample.Plain(x.T)}} {
				got, e := At(y.t, n, sample.Plain(u))
				answer(t, "At", got, e, want, wantE)
				got, e = At(y.t, n, u)
				answer(t, "At", got, e, want, wantE)
			}
			times, _ := Count(x.T, n)
			counted(t, sample.Plain(x.T), n, times, api.OK)
		}
	}
}
