package system

import (
	"slices"
	"testing"

	"hypercube/api"
	"hypercube/dims"
	"hypercube/lift"
	"hypercube/sample"
)

// P14.2.

// A branch's Kid of HComp binds a dimension, and no other: what is the dimension 0 of the outside has the number 1 there.
func ofEachKind(kind int, f row, plain, bound api.Term) api.Branch {
	if kind == api.HComp {
		return of(kind, f, bound)
	}
	return of(kind, f, plain)
}

// Variables and dimensions of the outside are lifted, bound ones stay.
func TestLift(t *testing.T) {
	for _, kind := range kinds {
		for branches := range 4 {
			plain, bound := pair(pair(variable(0), lam(pair(variable(0), variable(1)))), pair(loop(0), plam(loop(1)))), pair(pair(variable(0), lam(pair(variable(0), variable(1)))), pair(pair(loop(0), loop(1)), plam(loop(2))))
			l := slices.Repeat(system{ofEachKind(kind, row{neg(1), pos(2)}, plain, bound)}, branches)
			plain, bound = pair(pair(variable(5), lam(pair(variable(0), variable(6)))), pair(loop(2), plam(loop(3)))), pair(pair(variable(5), lam(pair(variable(0), variable(6)))), pair(pair(loop(0), loop(3)), plam(loop(4))))
			want := slices.Repeat(system{ofEachKind(kind, row{neg(4), pos(8)}, plain, bound)}, branches)
			got, e := Lift(kind, l, 5, 2)
			answer(t, "Lift", got, e, want, api.OK)
			got, e = Lift(kind, l, 0, 0)
			answer(t, "Lift by 0", got, e, l, api.OK)
		}
		got, e := Lift(kind, at(kind, never, row{pos(1)}, always, never), 3, 1)
		answer(t, "Lift", got, e, system{of(kind, never, variable(3)), of(kind, row{pos(2)}, variable(4)), of(kind, always, variable(5)), of(kind, never, variable(6))}, api.OK)
		got, e = Lift(kind, at(kind, row{pos(1)}), 1, 0)
		answer(t, "Lift of variables alone", got, e, system{of(kind, row{pos(1)}, variable(1))}, api.OK)
		got, e = Lift(kind, at(kind, row{pos(1)}), 0, 1)
		answer(t, "Lift of dimensions alone", got, e, system{of(kind, row{pos(2)}, variable(0))}, api.OK)
		got, e = Lift(kind, at(kind, row{pos(1)}), 1000000, 23)
		answer(t, "Lift by all that can be", got, e, system{of(kind, row{pos(sample.Last)}, variable(1000000))}, api.OK)
	}
}

// A formula stands where the dimension was, and those above that one are one less.
func TestTake(t *testing.T) {
	for _, kind := range kinds {
		for branches := range 4 {
			plain, bound := pair(pair(loop(0), loop(1)), plam(pair(loop(0), loop(1)))), pair(pair(loop(0), loop(1)), pair(loop(2), plam(loop(2))))
			l := slices.Repeat(system{ofEachKind(kind, row{neg(2), pos(1)}, plain, bound)}, branches)
			plain, bound = pair(pair(loops(neg(4)), loop(0)), plam(pair(loop(0), loops(neg(8))))), pair(pair(loop(0), loops(neg(8))), pair(loop(1), plam(loops(neg(16)))))
			want := slices.Repeat(system{ofEachKind(kind, row{neg(1), neg(4)}, plain, bound)}, branches)
			got, e := Take(kind, l, 0, row{neg(4)})
			answer(t, "Take", got, e, want, api.OK)
		}
		for _, x := range []struct {
			faces []row
			i     int
			r     row
			want  []row
			left  []int
		}{
			{[]row{{neg(1)}, {pos(1)}}, 0, never, []row{always}, []int{0}}, {[]row{{neg(1)}, {pos(1)}}, 0, always, []row{always}, []int{1}}, {[]row{{neg(1)}, {pos(1)}}, 0, row{pos(1)}, []row{{neg(1)}, {pos(1)}}, []int{0, 1}}, {[]row{{neg(1)}, {pos(1)}}, 0, row{neg(1)}, []row{{pos(1)}, {neg(1)}}, []int{0, 1}},
			{[]row{{neg(1)}, {pos(1)}}, 0, row{both(1, 1)}, []row{{neg(1), pos(1)}}, []int{0}}, {[]row{{neg(1)}, {pos(1)}}, 0, row{pos(3)}, []row{{neg(1), neg(2)}, {pos(3)}}, []int{0, 1}}, {[]row{{neg(1), pos(1)}}, 0, never, []row{always}, []int{0}},
			{[]row{{pos(2)}, {pos(1)}}, 0, never, []row{{pos(1)}}, []int{0}}, {[]row{{pos(2)}, {pos(1)}}, 1, never, []row{{pos(1)}}, []int{1}}, {[]row{{both(2, 1)}, always}, 1, always, []row{{neg(1)}, always}, []int{0, 1}}, {[]row{{pos(sample.Last)}}, 23, row{pos(1)}, []row{{pos(1)}}, []int{0}}, {[]row{{pos(sample.Last)}}, 0, row{pos(1)}, []row{{pos(1 << 22)}}, []int{0}},
			// One that was never goes, too.
			{[]row{never, {pos(2)}, never}, 0, never, []row{{pos(1)}}, []int{1}}, {[]row{never}, 5, row{pos(1)}, nil, nil}, {[]row{{pos(1)}}, 0, never, nil, nil}, {nil, 0, never, nil, nil}, {[]row{always}, 0, never, []row{always}, []int{0}},
		} {
			var want system
			for k, f := range x.want {
				want = append(want, of(kind, f, variable(x.left[k])))
			}
			got, e := Take(kind, at(kind, x.faces...), x.i, x.r)
			answer(t, "Take", got, e, want, api.OK)
		}
	}
}

// Where a clause is so branches go, or become total.
func TestUnder(t *testing.T) {
	for _, kind := range kinds {
		for branches := range 4 {
			plain, bound := pair(pair(loop(0), loops(neg(2))), plam(pair(loop(0), pair(loop(1), loop(2))))), pair(pair(loop(0), pair(loop(1), loops(neg(4)))), plam(pair(loop(1), pair(loop(2), loop(3)))))
			l := slices.Repeat(system{ofEachKind(kind, row{neg(2), pos(4)}, plain, bound)}, branches)
			plain, bound = pair(pair(loops(always...), loops(neg(2))), plam(pair(loop(0), pair(loops(always...), loop(2))))), pair(pair(loop(0), pair(loops(always...), loops(neg(4)))), plam(pair(loop(1), pair(loops(always...), loop(3)))))
			want := slices.Repeat(system{ofEachKind(kind, row{neg(2), pos(4)}, plain, bound)}, branches)
			got, e := Under(kind, l, pos(1))
			answer(t, "Under", got, e, want, api.OK)
		}
		for _, x := range []struct {
			faces []row
			c     api.Clause
			want  []row
			left  []int
		}{
			{[]row{{neg(1)}, {pos(1)}}, pos(1), []row{always}, []int{1}}, {[]row{{neg(1)}, {pos(1)}}, neg(1), []row{always}, []int{0}}, {[]row{{neg(1)}, {pos(1)}}, pos(2), []row{{neg(1)}, {pos(1)}}, []int{0, 1}}, {[]row{{pos(3)}, {pos(1)}}, pos(1), []row{{pos(2)}, always}, []int{0, 1}},
			{[]row{{pos(3)}, {both(1, 2)}}, both(1, 2), []row{always}, []int{1}}, {[]row{{pos(3), both(4, 1)}}, both(2, 1), []row{{pos(4)}}, []int{0}}, {[]row{{pos(3), both(4, 1)}, {neg(4)}}, both(3, 4), []row{always, always}, []int{0, 1}}, {[]row{{pos(3)}, {pos(4)}, {neg(1)}}, neg(5), []row{always}, []int{2}},
			{[]row{{pos(sample.Last)}, {neg(sample.Last)}}, neg(sample.Last), []row{always}, []int{1}}, {[]row{{pos(1)}, {pos(2)}}, pos(sample.Full), []row{always, always}, []int{0, 1}}, {[]row{{pos(1)}, {pos(2)}}, neg(sample.Full), nil, nil}, {[]row{always}, neg(1), []row{always}, []int{0}},
			// One that was never goes, unless nothing is said.
			{[]row{never, {pos(2)}, never}, pos(1), []row{{pos(2)}}, []int{1}}, {[]row{never, {pos(2)}, never}, neg(1), []row{{pos(2)}}, []int{1}}, {[]row{never, {pos(2)}}, api.Clause{}, []row{never, {pos(2)}}, []int{0, 1}}, {[]row{{neg(1)}, {pos(1)}, always}, api.Clause{}, []row{{neg(1)}, {pos(1)}, always}, []int{0, 1, 2}},
			{nil, pos(1), nil, nil}, {nil, api.Clause{}, nil, nil}, {[]row{never}, pos(1), nil, nil},
		} {
			var want system
			for k, f := range x.want {
				want = append(want, of(kind, f, variable(x.left[k])))
			}
			got, e := Under(kind, at(kind, x.faces...), x.c)
			answer(t, "Under", got, e, want, api.OK)
		}
	}
}

// itsTerm tells a system's term, by the tests' own forms.
func itsTerm(kind int, l system) api.Term {
	return api.Term{Kind: kind, Kids: slices.Repeat([]api.Term{univ}, len(sample.Forms()[kind].Kids)), Sys: l}
}

// grownSystem is a system that may be one of the kind, in so many variables and dimensions.
type grownSystem struct {
	kind int
	l    system
}

// grownSystems tells such, one for each seed; some branches have the face of another one.
func grownSystems(seeds uint32) []grownSystem {
	var out []grownSystem
	for seed := range seeds {
		g := sample.Grow(seed)
		x := grownSystem{kind: kinds[g.Below(len(kinds))]}
		vars, dimensions := g.Below(6), g.Below(14)
		for range g.Below(6) {
			b := branch(g.Row(dimensions, true))
			letters := sample.Forms()[x.kind].Branch
			for k := range len(letters) {
				v, d := sample.Inside(letters[k], vars, dimensions)
				b.Kids = append(b.Kids, g.Term(v, d, g.Below(20)))
			}
			if len(x.l) > 0 && g.Below(6) == 0 {
				b.Face = x.l[0].Face
			}
			x.l = append(x.l, b)
		}
		out = append(out, x)
	}
	return out
}

// tally counts the answers of each call by their errors.
type tally map[string]map[api.Errno]int

func (n tally) add(name string, e api.Errno) {
	if n[name] == nil {
		n[name] = map[api.Errno]int{}
	}
	n[name][e]++
}

// The answers are those of the system's term, refusals too.
func TestByTheTerm(t *testing.T) {
	formulas := append(sample.Formulas(30, 0xff), row{pos(1 << 15)}, row{neg(sample.Last)}, row{pos(1), pos(3)}, row{pos(1 << 24)})
	counts := tally{}
	for seed, x := range grownSystems(4000) {
		g := sample.Grow(uint32(seed) + 7)
		if g.Below(8) == 0 && len(x.l) > 0 {
			x.l = g.Spoilt(itsTerm(x.kind, x.l)).Sys
		} else if g.Below(4) == 0 {
			x.l = g.Far(itsTerm(x.kind, x.l)).Sys
		}
		whole := itsTerm(x.kind, x.l)
		hold := func(name string, got system, e api.Errno, want api.Term, wantE api.Errno) {
			t.Helper()
			answer(t, name, got, e, want.Sys, wantE)
			counts.add(name, e)
		}
		vars, more := []int{0, 1, 7, 1000000, 1000001, -1}[g.Below(6)], []int{0, 1, 3, 11, 20, 30, -1}[g.Below(7)]
		got, e := Lift(x.kind, x.l, vars, more)
		want, wantE := lift.Both(whole, vars, more)
		hold("Lift", got, e, want, wantE)
		i, r := g.Below(27)-1, formulas[g.Below(len(formulas))]
		got, e = Take(x.kind, x.l, i, r)
		want, wantE = dims.Take(whole, i, r)
		hold("Take", got, e, want, wantE)
		s := sample.Spread(uint32(seed), 2)
		c := both(s[0]&s[1]>>3&0xff, s[1]&0xff)
		if g.Below(8) > 0 {
			c.Neg &^= c.Pos
		}
		got, e = Under(x.kind, x.l, c)
		want, wantE = dims.Under(whole, c)
		hold("Under", got, e, want, wantE)
		if t.Failed() {
			t.Fatalf("the seed %d: %d, %s", seed, x.kind, short(x.l))
		}
	}
	for name, errors := range map[string][]api.Errno{"Lift": {api.OK, api.ErrArg, api.ErrTerm, api.ErrDims}, "Take": {api.OK, api.ErrArg, api.ErrTerm, api.ErrDims}, "Under": {api.OK, api.ErrArg, api.ErrTerm}} {
		for _, e := range errors {
			if counts[name][e] < 50 {
				t.Errorf("%s was answered with %d only %d times", name, e, counts[name][e])
			}
		}
	}
}
