package system

import (
	"reflect"
	"slices"
	"testing"

	"hypercube/api"
	"hypercube/face"
	"hypercube/sample"
)

// P14.3.

// clauses tells some that may be and do not clash: that which says nothing, all on two dimensions, some on more, and each of a face with some met.
func clauses(seed uint32, f row) []api.Clause {
	var out []api.Clause
	for p := range uint32(4) {
		for n := range uint32(4) {
			out = append(out, both(p, n&^p))
		}
	}
	s := sample.Spread(seed, 8)
	for k := range 4 {
		c := both(s[2*k]&(s[2*k]>>5)&sample.Full, s[2*k+1]&(s[2*k+1]>>9)&sample.Full)
		c.Neg &^= c.Pos
		out = append(out, c)
		for _, d := range f {
			more := both(d.Pos|c.Pos&^d.Neg, d.Neg|c.Neg&^d.Pos)
			out = append(out, d, both(more.Pos, more.Neg&^more.Pos))
		}
	}
	return out
}

// The face of a system where a clause is so is Restrict of its face.
func TestFaceUnder(t *testing.T) {
	changed, gone := 0, 0
	for seed, x := range grownSystems(800) {
		f, e := Face(x.l)
		if e != api.OK {
			t.Fatalf("Face(%s) is refused: %d", short(x.l), e)
		}
		for _, c := range clauses(uint32(seed), f) {
			below, e := Under(x.kind, x.l, c)
			if e != api.OK {
				t.Fatalf("Under(%s, %v) is refused: %d", short(x.l), c, e)
			}
			want, wantE := face.Restrict(f, c)
			got, e := Face(below)
			if e != wantE || !slices.Equal(got, want) {
				t.Fatalf("Face of Under(%s, %v) = %v, %d, not %v, %d", short(x.l), c, got, e, want, wantE)
			}
			if !slices.Equal(got, f) {
				changed++
			}
			if len(below) < len(x.l) {
				gone++
			}
		}
	}
	if changed < 10000 || gone < 10000 {
		t.Errorf("too few to tell: %d, %d", changed, gone)
	}
}

// Where a clause is below the face there is a total branch: there, and at each clause of the face that it is below; elsewhere there is none.
func TestTotalUnder(t *testing.T) {
	there, nowhere := 0, 0
	for seed, x := range grownSystems(800) {
		f, _ := Face(x.l)
		for _, c := range clauses(uint32(seed), f) {
			holds, _ := face.Holds(f, c)
			below, e := Under(x.kind, x.l, c)
			if e != api.OK || Total(below) >= 0 != holds {
				t.Fatalf("Total of Under(%s, %v) = %d, %d: but the face says %t", short(x.l), c, Total(below), e, holds)
			}
			if !holds {
				nowhere++
				continue
			}
			for _, d := range f {
				if in, _ := face.Holds(row{d}, c); !in {
					continue
				}
				there++
				if way, e := Under(x.kind, x.l, d); e != api.OK || Total(way) < 0 {
					t.Fatalf("Under(%s, %v) = %s, %d: no branch is total", short(x.l), d, short(way), e)
				}
			}
		}
	}
	if there < 5000 || nowhere < 5000 {
		t.Errorf("too few to tell: %d, %d", there, nowhere)
	}
}

// A system without branches has the face never, and no total branch, whatever becomes of it.
func TestNoBranches(t *testing.T) {
	for _, l := range []system{nil, {}} {
		got, e := Face(l)
		told(t, "Face", got, e, never)
		if n := Total(l); n != -1 {
			t.Errorf("Total = %d", n)
		}
		for _, kind := range kinds {
			for _, c := range goodCalls() {
				got, e := c(kind, l)
				answer(t, "a call", got, e, nil, api.OK)
			}
		}
	}
}

// The face is always just if a branch is total: faces that are always only together are not.
func TestFaceOfTotal(t *testing.T) {
	for _, x := range grownSystems(2000) {
		f, e := Face(x.l)
		if total := Total(x.l) >= 0; e != api.OK || total != slices.Equal(f, always) {
			t.Fatalf("Total(%s) = %d, but Face = %v, %d", short(x.l), Total(x.l), f, e)
		}
	}
}

// The rules that hold everywhere.

// allCalls tells all three with their arguments fixed.
func allCalls(r row) map[string]call {
	return map[string]call{
		"Lift by 0": lifting(0, 0), "Lift": lifting(2, 1), "Lift of variables": lifting(1, 0), "Take": taking(1, r), "Take of the last": taking(23, r),
		"Under": under(both(1, 4)), "Under nothing": under(api.Clause{}), "Under what is not there": under(neg(sample.Last)),
	}
}

// What is handed in stays as it is, its spare room too, and what lies there is not read; what is handed out is of its own memory.
func TestMemory(t *testing.T) {
	for seed, s := range grownSystems(800) {
		r := []row{{pos(8)}, {neg(2), pos(4)}, always, never}[seed%4]
		plain := allCalls(r)
		roomy := sample.Roomy(loops(r...))
		for name, c := range allCalls(roomy.R) {
			x := sample.Roomy(itsTerm(s.kind, s.l))
			before, rowBefore := sample.Whole(x), sample.Whole(roomy)
			want, wantE := plain[name](s.kind, s.l)
			got, e := c(s.kind, x.Sys)
			answer(t, name, got, e, want, wantE)
			if !reflect.DeepEqual(sample.Plain(sample.Whole(api.Term{Sys: got})), sample.Plain(sample.Whole(api.Term{Sys: want}))) {
				t.Fatalf("%s(%s): what lies in the spare room was handed out", name, short(s.l))
			}
			if twice := sample.Spoil([]api.Term{{Sys: got}}); twice > 0 {
				t.Fatalf("%s(%s): lists of one answer share memory", name, short(s.l))
			}
			if !reflect.DeepEqual(before, sample.Whole(x)) || !reflect.DeepEqual(rowBefore, sample.Whole(roomy)) {
				t.Fatalf("%s(%s): what was handed in was changed, or handed out", name, short(s.l))
			}
			got, e = c(s.kind, x.Sys)
			answer(t, name+" again", got, e, want, wantE)
		}
	}
}

// Face and Total read what is handed in, and no more; a face that is handed out is none of the branches'.
func TestMemoryOfFaces(t *testing.T) {
	for _, s := range append(grownSystems(800), grownSystem{api.Glue, at(api.Glue, row{pos(1)})}, grownSystem{api.Glue, at(api.Glue, always)}) {
		want, _ := Face(s.l)
		total := Total(s.l)
		x := sample.Roomy(api.Term{Sys: s.l})
		before := sample.Whole(x)
		for range 2 {
			got, e := Face(x.Sys)
			told(t, "Face", got, e, want)
			if n := Total(x.Sys); n != total {
				t.Fatalf("Total(%s) = %d, not %d", short(s.l), n, total)
			}
			sample.Spoil([]api.Term{{R: got}})
			if !reflect.DeepEqual(before, sample.Whole(x)) {
				t.Fatalf("Face(%s): what was handed in was changed, or handed out", short(s.l))
			}
		}
	}
}

// A part that stands in two places of one system is told for each.
func TestWhatIsShared(t *testing.T) {
	for _, kind := range kinds {
		part := sample.Grown(node(api.HComp, loop(0), lam(loop(1))), row{neg(1)}, loop(1))
		b := of(kind, row{neg(2)}, part)
		l := system{b, b, of(kind, b.Face, part)}
		for name, c := range allCalls(row{pos(8)}) {
			got, e := c(kind, l)
			want, wantE := c(kind, sample.Plain(api.Term{Sys: l}).Sys)
			answer(t, name, got, e, want, wantE)
			if e != api.OK || sample.Spoil([]api.Term{{Sys: got}}) > 0 {
				t.Errorf("%s: parts of an answer share memory", name)
			}
		}
	}
}

// A list without an element may be nil or empty.
func TestEmptyLists(t *testing.T) {
	for _, s := range append(grownSystems(1000), grownSystem{api.Glue, nil}, grownSystem{api.HComp, at(api.HComp, nil, nil)}) {
		plain := sample.Plain(api.Term{Sys: s.l}).Sys
		for _, r := range [][2]row{{{pos(8)}, {pos(8)}}, {nil, {}}} {
			empty := allCalls(r[1])
			for name, c := range allCalls(r[0]) {
				want, wantE := c(s.kind, s.l)
				got, e := empty[name](s.kind, plain)
				answer(t, name, got, e, want, wantE)
			}
		}
		want, wantE := Face(s.l)
		got, e := Face(plain)
		if e != wantE || !slices.Equal(got, want) || Total(plain) != Total(s.l) {
			t.Errorf("of %s: Face = %v, %d, not %v, %d", short(s.l), got, e, want, wantE)
		}
	}
}
