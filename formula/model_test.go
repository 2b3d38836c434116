package formula

import (
	"cmp"
	"slices"
	"testing"

	"hypercube/api"
	"hypercube/sample"
)

// A formula on two dimensions i and j is a function of four bits that never falls: of i, j, -i and -j, as if these
// had nothing to do with each other. A table holds its values: bit p is its value at the point p. The formula's
// clauses are the least points at which it is 1. So there are 168 of them, and tables tell what each call must answer.
type table uint16

func (x table) at(p int) bool { return x>>p&1 == 1 }

// by tells the table whose value at each point is told by a function.
func by(value func(p int) bool) table {
	var out table
	for p := range 16 {
		if value(p) {
			out |= 1 << p
		}
	}
	return out
}

// rises tells whether a table never falls.
func (x table) rises() bool {
	for p := range 16 {
		for k := range 4 {
			if x.at(p) && !x.at(p|1<<k) {
				return false
			}
		}
	}
	return true
}

// tables tells all that never fall.
func tables() []table {
	var out []table
	for x := range 1 << 16 {
		if table(x).rises() {
			out = append(out, table(x))
		}
	}
	return out
}

// not tells the table of the opposite: at the point where each literal is what its opposite is not.
func (x table) not() table {
	return by(func(p int) bool { return !x.at(15 &^ (p&3<<2 | p>>2)) })
}

// put tells the table with r in the place of a dimension (0 or 1).
func (x table) put(i int, r table) table {
	opposite := r.not()
	return by(func(p int) bool {
		q := p &^ (5 << i)
		if r.at(p) {
			q |= 1 << i
		}
		if opposite.at(p) {
			q |= 4 << i
		}
		return x.at(q)
	})
}

// isLeast tells whether a table is 1 at a point, and at none below it.
func (x table) isLeast(p int) bool {
	for k := range 4 {
		if p>>k&1 == 1 && x.at(p&^(1<<k)) {
			return false
		}
	}
	return x.at(p)
}

// formula tells the clauses of a table, with i and j as the two dimensions.
func (x table) formula(i, j int) row {
	place := func(two int) uint32 { return uint32(two&1)<<i | uint32(two>>1&1)<<j }
	var out row
	for p := range 16 {
		if x.isLeast(p) {
			out = append(out, both(place(p), place(p>>2)))
		}
	}
	slices.SortFunc(out, func(a, b api.Clause) int { return cmp.Or(cmp.Compare(a.Pos, b.Pos), cmp.Compare(a.Neg, b.Neg)) })
	return out
}

func TestAllOnTwoDimensions(t *testing.T) {
	all := tables()
	if len(all) != 168 {
		t.Fatalf("%d tables that never fall", len(all))
	}
	for _, at := range [][2]int{{0, 1}, {5, 23}} {
		i, j := at[0], at[1]
		for _, x := range all {
			f := x.formula(i, j)
			if !Right(f) {
				t.Fatalf("Right(%#x) = false", f)
			}
			got, e := Not(f)
			told(t, "Not", got, e, x.not().formula(i, j))
			for _, y := range all {
				g := y.formula(i, j)
				got, e = Join(f, g)
				told(t, "Join", got, e, (x|y).formula(i, j))
				got, e = Meet(f, g)
				told(t, "Meet", got, e, (x&y).formula(i, j))
				got, e = Put(f, i, g)
				told(t, "Put of the first", got, e, x.put(0, y).formula(i, j))
				got, e = Put(f, j, g)
				told(t, "Put of the second", got, e, x.put(1, y).formula(i, j))
			}
			if t.Failed() {
				t.FailNow()
			}
		}
	}
}

// What follows are the calls by the words of the document, step by step, for formulas that are too great for tables.

// wordLeast is refused where there are too many.
func wordLeast(l row) (row, api.Errno) {
	out := sample.Least(l)
	if len(out) > 64 {
		return nil, api.ErrBig
	}
	return out, api.OK
}

func wordMeet(f, g row) (row, api.Errno) {
	var out row
	for _, c := range g {
		out = append(out, met(f, c)...)
	}
	return wordLeast(out)
}

func wordNot(f row) (row, api.Errno) {
	there := row{top}
	for _, c := range f {
		var opposites row
		for i := range 24 {
			if c.Pos>>i&1 == 1 {
				opposites = append(opposites, neg(1<<i))
			}
			if c.Neg>>i&1 == 1 {
				opposites = append(opposites, pos(1<<i))
			}
		}
		var e api.Errno
		if there, e = wordMeet(there, opposites); e != api.OK {
			return nil, e
		}
	}
	return there, api.OK
}

// wordPart tells what Put makes of one clause, with Not of r made where it is asked for.
func wordPart(c api.Clause, i int, r row) (row, api.Errno) {
	bit := uint32(1) << i
	part, e := row{both(c.Pos&^bit, c.Neg&^bit)}, api.OK
	if c.Pos&bit != 0 {
		part, e = wordMeet(part, r)
	}
	if e != api.OK || c.Neg&bit == 0 {
		return part, e
	}
	opposite, e := wordNot(r)
	if e != api.OK {
		return nil, e
	}
	return wordMeet(part, opposite)
}

func wordPut(f row, i int, r row) (row, api.Errno) {
	var there row
	for _, c := range f {
		part, e := wordPart(c, i, r)
		if e != api.OK {
			return nil, e
		}
		if there, e = wordLeast(append(part, there...)); e != api.OK {
			return nil, e
		}
	}
	return there, api.OK
}

// same holds an answer against the one by the words.
func same(t *testing.T, name string, got row, e api.Errno, want row, wantErr api.Errno) {
	t.Helper()
	if e != wantErr || !slices.Equal(got, want) {
		t.Fatalf("%s: %d clauses, %d, not %d, %d", name, len(got), e, len(want), wantErr)
	}
}

func TestByTheWords(t *testing.T) {
	refusals, answers := 0, 0
	for _, dims := range []uint32{3, 8, 24} {
		some := many(60, dims)
		for _, f := range some {
			got, e := Not(f)
			want, wantErr := wordNot(f)
			same(t, "Not", got, e, want, wantErr)
			for _, g := range some {
				got, e = Join(f, g)
				want, wantErr = wordLeast(slices.Concat(g, f))
				same(t, "Join", got, e, want, wantErr)
				got, e = Meet(f, g)
				want, wantErr = wordMeet(f, g)
				same(t, "Meet", got, e, want, wantErr)
				i := (len(f) + 2*len(g)) % int(dims)
				got, e = Put(f, i, g)
				want, wantErr = wordPut(f, i, g)
				same(t, "Put", got, e, want, wantErr)
				if e == api.OK {
					answers++
				} else {
					refusals++
				}
			}
		}
	}
	if refusals < 100 || answers < 1000 {
		t.Errorf("the spread of the test is poor: %d refusals of Put, %d answers", refusals, answers)
	}
}

func TestLiftOfMany(t *testing.T) {
	for _, f := range many(60, 12) {
		for from := range 13 {
			for by := range 13 {
				low := uint32(1)<<from - 1
				want := make(row, len(f))
				for k, c := range f {
					want[k] = both(c.Pos&low|c.Pos&^low<<by, c.Neg&low|c.Neg&^low<<by)
				}
				got, e := Lift(f, from, by)
				told(t, "Lift", got, e, want)
			}
		}
	}
}
