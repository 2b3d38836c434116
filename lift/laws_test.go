package lift

import (
	"reflect"
	"testing"

	"hypercube/api"
	"hypercube/mask"
	"hypercube/sample"
	"hypercube/term"
)

// P11.4.

func TestLiftsByNothing(t *testing.T) {
	for _, x := range sample.GrownTerms(3000) {
		for from := range 4 {
			got, e := Vars(x.T, from, 0)
			answer(t, "Vars", got, e, x.T, api.OK)
			got, e = Dims(x.T, from, 0)
			answer(t, "Dims", got, e, x.T, api.OK)
		}
		got, e := Both(x.T, 0, 0)
		answer(t, "Both", got, e, x.T, api.OK)
	}
}

// sum holds two lifts, one behind the other, against one by both: the second from the same place on, or from one that the first made.
func sum(t *testing.T, name string, call func(api.Term, int, int) (api.Term, api.Errno), x api.Term, from, a, b int) {
	t.Helper()
	want, wantE := call(x, from, a+b)
	for more := range a + 1 {
		got, e := call(x, from, a)
		if e == api.OK {
			got, e = call(got, from+more, b)
		}
		answer(t, name, got, e, want, wantE)
	}
}

func TestLiftsAddUp(t *testing.T) {
	for _, x := range sample.GrownTerms(600) {
		for from := range 3 {
			for a := range 4 {
				for _, b := range []int{0, 1, 2, 9} {
					sum(t, "Vars", Vars, x.T, from, a, b)
					sum(t, "Dims", Dims, x.T, from, a, b)
				}
			}
		}
		got, e := Both(x.T, 2, 1)
		if e == api.OK {
			got, e = Both(got, 3, 2)
		}
		want, wantE := Both(x.T, 5, 3)
		answer(t, "Both", got, e, want, wantE)
	}
	sum(t, "Vars at the last", Vars, variable(billion-10), 0, 4, 6)
	sum(t, "Vars beyond the last", Vars, variable(billion-10), 0, 4, 7)
	sum(t, "Dims at the last", Dims, loop(13), 2, 4, 6)
	sum(t, "Dims beyond the last", Dims, loop(13), 2, 4, 7)
}

// What was lifted from a place on by 1 does not use that; and it uses what it used, each where it is now.
func TestWhatIsUsed(t *testing.T) {
	for _, x := range sample.GrownTerms(2000) {
		for from := range 7 {
			got, _ := Vars(x.T, from, 1)
			if term.Uses(got, from) || term.Dims(got) != term.Dims(x.T) {
				t.Fatalf("Vars(%v, %d, 1) = %v", x.T, from, got)
			}
			for n := range 7 {
				to := n
				if n >= from {
					to++
				}
				if term.Uses(got, to) != term.Uses(x.T, n) {
					t.Fatalf("Vars(%v, %d, 1) = %v, of %d", x.T, from, got, n)
				}
			}
			got, e := Dims(x.T, from, 1)
			if e != api.OK {
				continue
			}
			want, _ := mask.Lift(term.Dims(x.T), from, 1)
			if dims := term.Dims(got); dims != want || mask.Has(dims, from) {
				t.Fatalf("Dims(%v, %d, 1) = %v", x.T, from, got)
			}
			for n := range 7 {
				if term.Uses(got, n) != term.Uses(x.T, n) {
					t.Fatalf("Dims(%v, %d, 1) = %v", x.T, from, got)
				}
			}
		}
	}
}

// A lift of variables and one of dimensions hang on no order.
func TestNoOrder(t *testing.T) {
	told := 0
	for _, x := range sample.GrownTerms(3000) {
		for k := range 6 {
			varsFrom, varsBy, dimsFrom, dimsBy := k%3, k*k, k%2, k
			a, ea := Vars(x.T, varsFrom, varsBy)
			if ea == api.OK {
				a, ea = Dims(a, dimsFrom, dimsBy)
			}
			b, eb := Dims(x.T, dimsFrom, dimsBy)
			if eb == api.OK {
				b, eb = Vars(b, varsFrom, varsBy)
			}
			answer(t, "in the other order", b, eb, a, ea)
			if varsFrom == 0 && dimsFrom == 0 {
				c, ec := Both(x.T, varsBy, dimsBy)
				answer(t, "Both", c, ec, a, ea)
			}
			if ea == api.OK {
				told++
			}
		}
	}
	if told < 5000 {
		t.Errorf("only %d were told", told)
	}
}

// What may be in so many may be lifted in so many more.
func TestMayBeInMore(t *testing.T) {
	told := 0
	for _, x := range sample.GrownTerms(1500) {
		for by := range 8 {
			for from := range 4 {
				got, e := Vars(x.T, from, by*1000)
				if e != api.OK || from <= x.Vars && term.Right(got, x.Vars+by*1000, x.Dims) != api.OK {
					t.Fatalf("Vars(%v, %d, %d) = %v, %d", x.T, from, by, got, e)
				}
				if term.Right(x.T, x.Vars, x.Dims+by) != api.OK { // its binders leave no room for so many
					continue
				}
				got, e = Dims(x.T, from, by)
				if e != api.OK || term.Right(got, x.Vars, x.Dims+by) != api.OK {
					t.Fatalf("Dims(%v, %d, %d) = %v, %d", x.T, from, by, got, e)
				}
				got, e = Both(x.T, by, by)
				if e != api.OK || term.Right(got, x.Vars+by, x.Dims+by) != api.OK {
					t.Fatalf("Both(%v, %d, %d) = %v, %d", x.T, by, by, got, e)
				}
				told++
			}
		}
	}
	if told < 20000 {
		t.Errorf("only %d were told", told)
	}
}

// The rules that hold everywhere: what is handed in stays as it is, its spare room too, and what lies there is not read; what is handed out is of its own memory.
func TestMemory(t *testing.T) {
	for _, s := range sample.GrownTerms(800) {
		for name, call := range calls() {
			for _, at := range [][2]int{{0, 0}, {0, 1}, {1, 2}, {3, 0}, {0, 22}} {
				x := sample.Roomy(s.T)
				before := sample.Whole(x)
				want, wantE := call(s.T, at[0], at[1])
				got, e := call(x, at[0], at[1])
				answer(t, name, got, e, want, wantE)
				if !reflect.DeepEqual(sample.Plain(sample.Whole(got)), sample.Plain(sample.Whole(want))) {
					t.Fatalf("%s(%v): what lies in the spare room was handed out", name, s.T)
				}
				if twice := sample.Spoil([]api.Term{got}); twice > 0 {
					t.Fatalf("%s(%v): lists of one answer share memory", name, s.T)
				}
				if !reflect.DeepEqual(before, sample.Whole(x)) {
					t.Fatalf("%s(%v): what was handed in was changed, or handed out", name, s.T)
				}
				got, e = call(x, at[0], at[1])
				answer(t, name+" again", got, e, want, wantE)
			}
		}
	}
}

// A part that stands in two places of one term is lifted for each.
func TestWhatIsShared(t *testing.T) {
	part := grown(grown(with(node(api.HComp, variable(1), lam(variable(1))), nil), row{neg(1)}, loop(1)), row{neg(2)}, loop(2))
	x := grown(grown(node(api.Glue, part), part.Sys[0].Face, part, part), part.Sys[0].Face, part, part)
	for name, call := range calls() {
		got, e := call(x, 1, 1)
		want, wantE := call(term.Copy(x), 1, 1)
		answer(t, name, got, e, want, wantE)
		if e != api.OK || sample.Spoil([]api.Term{got}) > 0 {
			t.Errorf("%s: parts of an answer share memory", name)
		}
	}
}

// A list without an element may be nil or empty.
func TestEmptyLists(t *testing.T) {
	for _, s := range append(sample.GrownTerms(1000), sample.Scoped{T: univ}, sample.Scoped{T: node(api.Loop)}, sample.Scoped{T: grown(node(api.MkGlue, univ), nil, univ)}) {
		for name, call := range calls() {
			want, wantE := call(s.T, 1, 2)
			got, e := call(sample.Plain(s.T), 1, 2)
			answer(t, name, got, e, want, wantE)
		}
	}
}
