package face

import (
	"slices"
	"testing"

	"hypercube/api"
	"hypercube/formula"
	"hypercube/sample"
)

// At a point each dimension is 1, 0, or neither. A point is written as the clause of the literals that are so there.
// A face is the set of the points at which it is so; its clauses are those of them that fix least.
type point = api.Clause

// points tells all points of some dimensions.
func points(dims ...int) []point {
	out := []point{{}}
	for _, i := range dims {
		for _, p := range slices.Clone(out) {
			out = append(out, both(p.Pos|1<<i, p.Neg), both(p.Pos, p.Neg|1<<i))
		}
	}
	return out
}

// isSo tells whether a face is so at a point.
func isSo(f row, p point) bool {
	return slices.ContainsFunc(f, func(c api.Clause) bool { return c.Pos&^p.Pos == 0 && c.Neg&^p.Neg == 0 })
}

// isZero tells whether a formula is 0 at a point: each clause has a literal that is 0 there.
func isZero(f row, p point) bool {
	return !slices.ContainsFunc(f, func(c api.Clause) bool { return c.Pos&p.Neg == 0 && c.Neg&p.Pos == 0 })
}

// by tells the face that is so at the points that a function tells.
func by(all []point, is func(p point) bool) row {
	var so row
	for _, p := range all {
		if is(p) {
			so = append(so, p)
		}
	}
	return sample.Least(so)
}

// unset tells a point with a dimension neither 1 nor 0.
func unset(p point, i int) point { return both(p.Pos&^(1<<i), p.Neg&^(1<<i)) }

// moved tells a point with a dimension at a formula's value there.
func moved(p point, i int, r row) point {
	to := unset(p, i)
	switch {
	case isSo(r, p):
		to.Pos |= 1 << i
	case isZero(r, p):
		to.Neg |= 1 << i
	}
	return to
}

// within tells a point with a clause's literals so.
func within(p point, c api.Clause) point {
	return both(p.Pos&^c.Neg|c.Pos, p.Neg&^c.Pos|c.Neg)
}

// onTwo tells all faces on two dimensions.
func onTwo(i, j int) []row {
	all := points(i, j)
	var out []row
	for chosen := range 1 << len(all) {
		l := by(all, func(p point) bool { return chosen>>slices.Index(all, p)&1 == 1 })
		if bitsOf(chosen) == len(l) {
			out = append(out, l)
		}
	}
	return out
}

func bitsOf(n int) int {
	out := 0
	for ; n > 0; n >>= 1 {
		out += n & 1
	}
	return out
}

// holdsForOne holds the calls of one face against the points.
func holdsForOne(t *testing.T, f row, all []point, dims []int) {
	t.Helper()
	for _, i := range dims {
		got, e := All(f, i)
		told(t, "All", got, e, by(all, func(p point) bool { return isSo(f, unset(p, i)) }))
	}
	for _, c := range all {
		got, e := Restrict(f, c)
		told(t, "Restrict", got, e, by(all, func(p point) bool { return isSo(f, within(p, c)) }))
		if is, e := Holds(f, c); is != isSo(f, c) || e != api.OK {
			t.Errorf("Holds(%#x, %#x) = %v, %d", f, c, is, e)
		}
	}
}

// holdsForTwo holds the calls of two faces against the points.
func holdsForTwo(t *testing.T, f, g row, all []point) {
	t.Helper()
	got, e := Join(f, g)
	told(t, "Join", got, e, by(all, func(p point) bool { return isSo(f, p) || isSo(g, p) }))
	got, e = Meet(f, g)
	told(t, "Meet", got, e, by(all, func(p point) bool { return isSo(f, p) && isSo(g, p) }))
	want := !slices.ContainsFunc(all, func(p point) bool { return isSo(f, p) && !isSo(g, p) })
	if is, e := Entails(f, g); is != want || e != api.OK {
		t.Errorf("Entails(%#x, %#x) = %v, %d", f, g, is, e)
	}
}

// holdsForFormula holds the calls of one formula against the points.
func holdsForFormula(t *testing.T, r row, all []point) {
	t.Helper()
	got, e := Of(r)
	told(t, "Of", got, e, by(all, func(p point) bool { return isSo(r, p) }))
	got, e = OfZero(r)
	told(t, "OfZero", got, e, by(all, func(p point) bool { return isZero(r, p) }))
}

func TestAllOnTwoDimensions(t *testing.T) {
	all, faces, rs := points(0, 23), onTwo(0, 23), sample.OnTwo(0, 23)
	if len(faces) != 48 || len(rs) != 168 {
		t.Errorf("%d faces and %d formulas on two dimensions", len(faces), len(rs))
	}
	for _, r := range rs {
		holdsForFormula(t, r, all)
	}
	for _, f := range faces {
		if !Right(f) {
			t.Fatalf("Right(%#x) = false", f)
		}
		holdsForOne(t, f, all, []int{0, 7, 23})
		for _, g := range faces {
			holdsForTwo(t, f, g, all)
		}
		for _, r := range rs {
			for _, i := range []int{0, 7, 23} {
				got, e := Put(f, i, r)
				told(t, "Put", got, e, by(all, func(p point) bool { return isSo(f, moved(p, i, r)) }))
			}
		}
		if t.Failed() {
			t.FailNow()
		}
	}
}

// able tells the clauses of a row that do not clash.
func able(l row) row {
	var out row
	for _, c := range l {
		if c.Pos&c.Neg == 0 {
			out = append(out, c)
		}
	}
	return out
}

func TestSomeOnFourDimensions(t *testing.T) {
	dims := []int{1, 2, 11, 22}
	all := points(dims...)
	rs := sample.Formulas(42, 1<<1|1<<2|1<<11|1<<22)
	for _, r := range rs {
		f := able(r)
		holdsForFormula(t, r, all)
		holdsForOne(t, f, all, dims)
		for k, r2 := range rs {
			holdsForTwo(t, f, able(r2), all)
			i := dims[k%4]
			got, e := Put(f, i, r2)
			told(t, "Put", got, e, by(all, func(p point) bool { return isSo(f, moved(p, i, r2)) }))
		}
		if t.Failed() {
			t.FailNow()
		}
	}
}

// What follows are calls by the words of the document, step by step, for faces that are too great for points.

func wordLeast(l row) (row, api.Errno) {
	out := sample.Least(l)
	if len(out) > 64 {
		return nil, api.ErrBig
	}
	return out, api.OK
}

func wordMeet(f, g row) (row, api.Errno) {
	var out row
	for _, c := range g {
		out = append(out, able(met(f, c))...)
	}
	return wordLeast(out)
}

// wordPart tells what Put makes of one clause.
func wordPart(c api.Clause, i int, r row) (row, api.Errno) {
	part, e := row{unset(c, i)}, api.OK
	if c.Pos>>i&1 == 1 {
		part, e = wordMeet(part, able(r))
	}
	if e != api.OK || c.Neg>>i&1 == 0 {
		return part, e
	}
	not, e := formula.Not(r)
	if e != api.OK {
		return nil, e
	}
	return wordMeet(part, able(not))
}

func wordPut(f row, i int, r row) (row, api.Errno) {
	var there row
	for _, c := range f {
		part, e := wordPart(c, i, r)
		if e != api.OK {
			return nil, e
		}
		if there, e = wordLeast(append(part, there...)); e != api.OK {
			return nil, e
		}
	}
	return there, api.OK
}

func TestByTheWords(t *testing.T) {
	counts := map[api.Errno]int{}
	same := func(name string, got row, e api.Errno, want row, wantErr api.Errno) {
		t.Helper()
		counts[e]++
		if e != wantErr || !slices.Equal(got, want) {
			t.Fatalf("%s: %d clauses, %d, not %d, %d", name, len(got), e, len(want), wantErr)
		}
	}
	for _, dims := range []uint32{5, 9, 24} {
		some := sample.Great(60, dims)
		for _, r := range some {
			f := able(r)
			for _, r2 := range some {
				g := able(r2)
				got, e := Join(f, g)
				want, wantErr := wordLeast(slices.Concat(g, f))
				same("Join", got, e, want, wantErr)
				got, e = Meet(f, g)
				want, wantErr = wordMeet(f, g)
				same("Meet", got, e, want, wantErr)
				i := (len(f) + 2*len(g)) % int(dims)
				got, e = Put(f, i, r2)
				want, wantErr = wordPut(f, i, r2)
				same("Put", got, e, want, wantErr)
			}
		}
	}
	if counts[api.ErrBig] < 300 || counts[api.OK] < 5000 {
		t.Errorf("the spread of the test is poor: %v", counts)
	}
}
