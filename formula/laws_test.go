package formula

import (
	"slices"
	"testing"

	"hypercube/api"
)

// P3.6.

// answer is what a call told, or that one on the way to it was refused.
type answer struct {
	f row
	e api.Errno
}

func given(f row) answer { return answer{f, api.OK} }

// on makes a call of what two calls told.
func on(call func(f, g row) (row, api.Errno), a, b answer) answer {
	if a.e != api.OK {
		return a
	}
	if b.e != api.OK {
		return b
	}
	f, e := call(a.f, b.f)
	return answer{f, e}
}

func join2(a, b answer) answer { return on(Join, a, b) }
func meet2(a, b answer) answer { return on(Meet, a, b) }
func not1(a answer) answer {
	return on(func(f, _ row) (row, api.Errno) { return Not(f) }, a, given(nil))
}

// law holds two sides against each other, wherever both are told.
func law(t *testing.T, name string, a, b answer) {
	t.Helper()
	if a.e == api.OK && b.e == api.OK && !slices.Equal(a.f, b.f) {
		t.Fatalf("%s: %#x is not %#x", name, a.f, b.f)
	}
}

// lawful tells formulas on which the laws are held: those on two dimensions, and greater ones.
func lawful() []row {
	var out []row
	for _, x := range tables() {
		out = append(out, x.formula(0, 23))
	}
	return slices.Concat(out, many(20, 4), many(20, 9), many(20, 24), rights())
}

// everyOther tells one in n of some formulas.
func everyOther(n int, of []row) []row {
	var out []row
	for k := 0; k < len(of); k += n {
		out = append(out, of[k])
	}
	return out
}

func TestLawsOfOneAndTwo(t *testing.T) {
	zero, one := given(Zero()), given(One())
	some := everyOther(5, lawful())
	for _, f := range lawful() {
		a := given(f)
		law(t, "a join a", join2(a, a), a)
		law(t, "a meet a", meet2(a, a), a)
		law(t, "a join 0", join2(a, zero), a)
		law(t, "a meet 1", meet2(a, one), a)
		law(t, "a join 1", join2(a, one), one)
		law(t, "a meet 0", meet2(a, zero), zero)
		law(t, "Not of Not", not1(not1(a)), a)
		for _, g := range some {
			b := given(g)
			law(t, "the order of Join", join2(a, b), join2(b, a))
			law(t, "the order of Meet", meet2(a, b), meet2(b, a))
			law(t, "Join is absorbed", meet2(a, join2(a, b)), a)
			law(t, "Meet is absorbed", join2(a, meet2(a, b)), a)
			law(t, "Not of Join", not1(join2(a, b)), meet2(not1(a), not1(b)))
			law(t, "Not of Meet", not1(meet2(a, b)), join2(not1(a), not1(b)))
		}
	}
}

func TestLawsOfThree(t *testing.T) {
	some := everyOther(8, lawful())
	for _, f := range some {
		for _, g := range some {
			for _, h := range some {
				a, b, c := given(f), given(g), given(h)
				law(t, "the brackets of Join", join2(join2(a, b), c), join2(a, join2(b, c)))
				law(t, "the brackets of Meet", meet2(meet2(a, b), c), meet2(a, meet2(b, c)))
				law(t, "Meet goes through Join", meet2(a, join2(b, c)), join2(meet2(a, b), meet2(a, c)))
				law(t, "Join goes through Meet", join2(a, meet2(b, c)), meet2(join2(a, b), join2(a, c)))
			}
		}
	}
}

func TestADimensionMetWithItsOppositeIsNotZero(t *testing.T) {
	for i := range 24 {
		f, _ := Dim(i)
		opposite, _ := Not(f)
		got, e := Meet(f, opposite)
		told(t, "i meet -i", got, e, row{both(1<<i, 1<<i)})
		got, e = Join(f, opposite)
		told(t, "i join -i", got, e, row{neg(1 << i), pos(1 << i)})
	}
}

func TestPutOfItsOwnFormula(t *testing.T) {
	for _, f := range lawful() {
		for i := range 24 {
			own, _ := Dim(i)
			got, e := Put(f, i, own)
			told(t, "Put of i's own formula", got, e, f)
		}
	}
}
