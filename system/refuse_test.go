package system

import (
	"math"
	"slices"
	"testing"

	"hypercube/api"
	"hypercube/sample"
)

// noKinds are those without a system, and numbers that are no kinds.
func noKinds() []int {
	out := []int{0, -1, -15, 29, 30, 15 + 256, 15 + 1<<32, math.MinInt, math.MaxInt}
	for kind := api.Var; kind <= api.The; kind++ {
		if !slices.Contains(kinds, kind) {
			out = append(out, kind)
		}
	}
	return out
}

// badClauses are those that may not be, those that clash, and those that do both.
var badClauses = []api.Clause{
	pos(1 << 24), neg(1 << 24), pos(1 << 31), neg(math.MaxUint32), both(1, 1<<24), both(1<<25, 2), both(math.MaxUint32, math.MaxUint32), both(1<<24, 1<<24),
	both(1, 1), both(3, 6), both(sample.Last, sample.Last), both(sample.Full, 1), both(1, sample.Full), both(sample.Full, sample.Full),
}

// call is one with its arguments fixed, but for the system.
type call = func(kind int, l system) (system, api.Errno)

func lifting(vars, dims int) call {
	return func(kind int, l system) (system, api.Errno) { return Lift(kind, l, vars, dims) }
}

func taking(i int, r row) call {
	return func(kind int, l system) (system, api.Errno) { return Take(kind, l, i, r) }
}

func under(c api.Clause) call {
	return func(kind int, l system) (system, api.Errno) { return Under(kind, l, c) }
}

// goodCalls are those whose other arguments may be.
func goodCalls() []call {
	return []call{lifting(0, 0), lifting(1, 0), lifting(0, 1), lifting(3, 2), taking(0, never), taking(0, always), taking(23, row{pos(1)}), under(api.Clause{}), under(pos(1)), under(neg(1)), under(both(2, 1))}
}

// badCalls are those with one that may not be, and with several.
func badCalls() []call {
	out := []call{lifting(-1, 0), lifting(0, -1), lifting(-1, -1), lifting(1000001, 0), lifting(math.MaxInt, 0), lifting(math.MinInt, 0), lifting(0, math.MinInt), lifting(1000001, -1), lifting(0, 1000001), lifting(0, math.MaxInt)}
	for _, i := range sample.NoDimensions() {
		out = append(out, taking(i, never), taking(i, row{pos(1)}), taking(i, row{pos(1 << 24)}), taking(i, row{pos(sample.Last)}))
	}
	for _, r := range sample.WrongFormulas() {
		out = append(out, taking(0, r), taking(23, r), taking(24, r))
	}
	for _, c := range badClauses {
		out = append(out, under(c))
	}
	return out
}

// A kind that is none of the four is refused, whatever else there is.
func TestNoKind(t *testing.T) {
	systems := []system{nil, {}, {branch(always)}, {branch(row{pos(1)}, univ)}, {branch(row{pos(1)}, univ, univ)}, {branch(row{both(1, 1)}, univ)}, {branch(never, api.Term{})}, {branch(never, times(300, univ, fst))}, {branch(always, sample.Balanced(20001))}}
	for _, kind := range noKinds() {
		for _, l := range systems {
			for k, c := range append(goodCalls(), badCalls()...) {
				if got, e := c(kind, l); len(got) != 0 || e != api.ErrArg {
					t.Fatalf("of the kind %d the call %d tells %s, %d", kind, k, short(got), e)
				}
			}
		}
	}
}

// What is no system of the kind is refused as Formed refuses its term, ahead of all that is wrong with the other arguments.
func TestNoSystem(t *testing.T) {
	deep, great := times(198, univ, fst), sample.Balanced(20000)
	for _, kind := range kinds {
		one := func(f row, kid api.Term) system { return system{of(kind, f, kid)} }
		parts := len(sample.Forms()[kind].Branch)
		fits, less, more := of(kind, row{pos(1)}, univ), of(kind, row{pos(1)}, univ), of(kind, row{pos(1)}, univ)
		less.Kids, more.Kids = less.Kids[1:], append(more.Kids, univ)
		for _, x := range []struct {
			l    system
			want api.Errno
		}{
			{system{less}, api.ErrTerm}, {system{more}, api.ErrTerm}, {system{fits, less}, api.ErrTerm}, {system{more, fits}, api.ErrTerm}, {system{branch(never)}, api.ErrTerm}, {system{branch(always)}, api.ErrTerm}, {system{{}}, api.ErrTerm},
			{one(row{pos(1)}, api.Term{}), api.ErrTerm}, {one(never, api.Term{}), api.ErrTerm}, {one(always, variable(-1)), api.ErrTerm}, {one(row{pos(1)}, node(api.Lam)), api.ErrTerm}, {one(row{pos(1)}, lam(api.Term{Kind: 29})), api.ErrTerm}, {one(always, loops(pos(1<<24))), api.ErrTerm}, {one(always, loops(pos(1), pos(3))), api.ErrTerm}, {one(always, with(univ, row{{}})), api.ErrTerm},
			{one(row{pos(1)}, deep), api.OK}, {one(never, fst(deep)), api.ErrDeep}, {one(always, fst(deep)), api.ErrDeep}, {one(row{pos(1)}, great), api.ErrSize}, {one(never, great), api.ErrSize}, {append(one(row{pos(1)}, great), one(always, fst(deep))...), api.ErrDeep}, {append(one(row{both(1, 1)}, api.Term{}), one(always, great)...), api.ErrSize}, {append(one(row{both(1, 1)}, api.Term{}), one(always, fst(deep))...), api.ErrDeep},
			{slices.Repeat(system{fits}, 20000), api.ErrSize}, {append(one(row{pos(1)}, pair(univ, plam(loop(23)))), less), api.ErrTerm},
		} {
			for k, c := range goodCalls() {
				got, e := c(kind, x.l)
				if x.want == api.OK && e == api.OK {
					continue
				}
				if len(got) != 0 || e != x.want {
					t.Fatalf("of the kind %d, %d Kids: the call %d of %s tells %s, %d, not %d", kind, parts, k, short(x.l), short(got), e, x.want)
				}
			}
			want := x.want
			if want == api.OK {
				want = api.ErrArg
			}
			for k, c := range badCalls() {
				if got, e := c(kind, x.l); len(got) != 0 || e != want {
					t.Fatalf("of the kind %d: the bad call %d of %s tells %s, %d, not %d", kind, k, short(x.l), short(got), e, want)
				}
			}
		}
		for _, f := range sample.WrongFaces() {
			for k, c := range append(goodCalls(), badCalls()...) {
				if got, e := c(kind, system{fits, of(kind, f, univ)}); len(got) != 0 || e != api.ErrTerm {
					t.Fatalf("of the kind %d: the call %d of the face %v tells %s, %d", kind, k, f[:1], short(got), e)
				}
			}
		}
	}
}

// The other arguments are refused, whatever the system is.
func TestBadArguments(t *testing.T) {
	for _, kind := range kinds {
		for _, l := range []system{nil, {}, at(kind, never), at(kind, always), at(kind, row{pos(1)}, row{neg(1)}), at(kind, row{pos(sample.Last)}), {of(kind, row{pos(1)}, loop(23))}} {
			for k, c := range badCalls() {
				if got, e := c(kind, l); len(got) != 0 || e != api.ErrArg {
					t.Fatalf("of the kind %d: the call %d of %s tells %s, %d", kind, k, short(l), short(got), e)
				}
			}
		}
	}
}

// A system's term is as great and as deep as a term may be, counted with the Kids of its kind.
func TestLimits(t *testing.T) {
	for _, kind := range kinds {
		f := sample.Forms()[kind]
		room := api.MaxSize - 1 - len(f.Kids)
		for more := range 2 {
			want := []api.Errno{api.OK, api.ErrSize}[more]
			l := system{of(kind, row{pos(2)}, univ)}
			l[0].Kids[0] = sample.Balanced(room - len(f.Branch) + 1 + more)
			after := system{of(kind, row{pos(1)}, univ)}
			after[0].Kids[0] = l[0].Kids[0]
			got, e := Take(kind, l, 0, never)
			answer(t, "Take", got, e, after, want)
			got, e = Lift(kind, l, 1, 0)
			answer(t, "Lift", got, e, l, want)
			got, e = Under(kind, l, pos(1))
			answer(t, "Under", got, e, l, want)
			want = []api.Errno{api.OK, api.ErrDeep}[more]
			l = system{of(kind, row{pos(2)}, times(198+more, univ, fst))}
			got, e = Lift(kind, l, 1, 0)
			answer(t, "Lift", got, e, l, want)
			got, e = Under(kind, l, neg(1))
			answer(t, "Under", got, e, l, want)
			got, e = Take(kind, l, 5, never)
			answer(t, "Take", got, e, l, want)
		}
	}
}

// What can't be lifted or put is refused: what comes first in the system, face ahead of Kids; of a branch that goes only the face is looked at.
func TestWhatIsRefusedFirst(t *testing.T) {
	high, far := variable(1000000000), loop(23)
	for _, kind := range kinds {
		for _, x := range []struct {
			l          system
			vars, more int
			want       api.Errno
		}{
			{system{of(kind, row{pos(sample.Last)}, univ)}, 0, 1, api.ErrDims}, {system{of(kind, row{pos(sample.Last)}, univ)}, 9, 0, api.OK}, {system{of(kind, row{pos(1)}, plam(loop(23)))}, 0, 1, api.ErrDims}, {system{of(kind, never, plam(loop(23)))}, 0, 1, api.ErrDims}, {system{of(kind, row{neg(1)}, univ)}, 0, 24, api.ErrDims}, {system{of(kind, always, univ)}, 0, 1000000, api.OK}, {nil, 1000000, 1000000, api.OK},
			{system{of(kind, always, high)}, 1, 0, api.ErrTerm}, {system{of(kind, always, variable(1000000001))}, 0, 0, api.ErrTerm}, {system{of(kind, row{pos(sample.Last)}, high)}, 1, 1, api.ErrTerm}, {system{of(kind, row{pos(sample.Last)}, univ), of(kind, always, high)}, 1, 1, api.ErrTerm},
		} {
			got, e := Lift(kind, x.l, x.vars, x.more)
			if e != x.want {
				t.Errorf("of the kind %d: Lift(%s, %d, %d) = %s, %d, not %d", kind, short(x.l), x.vars, x.more, short(got), e, x.want)
			}
		}
		// What stands for a dimension can't be lifted: by itself, and behind the binder of HComp alone.
		got, e := Take(kind, nil, 0, row{pos(sample.Last)})
		answer(t, "Take", got, e, nil, api.ErrDims)
		got, e = Take(kind, system{of(kind, row{pos(2)}, far)}, 0, row{pos(1 << 22)})
		answer(t, "Take where nothing has it", got, e, system{of(kind, row{pos(1)}, loop(22))}, api.OK)
		want := api.OK
		if kind == api.HComp {
			want = api.ErrDims
		}
		got, e = Take(kind, system{of(kind, always, pair(loop(0), loop(1)))}, 0, row{pos(1 << 22)})
		answer(t, "Take behind a binder", got, e, system{of(kind, always, pair(loop(22), loop(0)))}, want)
		// A branch that goes is not refused for what it has.
		got, e = Take(kind, system{of(kind, row{pos(1)}, plam(plam(loop(3)))), of(kind, always, univ)}, 0, never)
		answer(t, "Take of one that goes", got, e, system{of(kind, always, univ)}, api.OK)
		got, e = Take(kind, system{of(kind, never, plam(plam(loop(2)))), of(kind, always, univ)}, 0, row{pos(1 << 22)})
		answer(t, "Take of one that was never", got, e, system{of(kind, always, univ)}, api.OK)
		// What stands for i can be lifted behind no binder, and -i is it in too many ways: a face is told ahead of its Kids, and of a branch behind it.
		kid, ahead, many := ofEachKind(kind, always, plam(loop(1)), loop(1)), of(kind, row{neg(1)}, univ), ofEachKind(kind, row{neg(1)}, plam(loop(1)), loop(1))
		for _, x := range []struct {
			l    system
			want api.Errno
		}{{system{kid}, api.ErrDims}, {system{ahead}, api.ErrBig}, {system{kid, ahead}, api.ErrDims}, {system{ahead, kid}, api.ErrBig}, {system{many}, api.ErrBig}, {system{of(kind, always, univ), kid, many}, api.ErrDims}} {
			got, e = Take(kind, x.l, 0, sevenPairs())
			answer(t, "Take of what is too much", got, e, nil, x.want)
		}
	}
}

// sevenPairs is a formula that is 0 in more ways than there may be clauses, of the dimensions up to 22.
func sevenPairs() row {
	var out row
	for k := range 7 {
		out = append(out, pos(3<<(9+2*k)))
	}
	return out
}
