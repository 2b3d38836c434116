package dims

import (
	"reflect"
	"slices"
	"testing"

	"hypercube/api"
	"hypercube/face"
	"hypercube/formula"
	"hypercube/lift"
	"hypercube/plug"
	"hypercube/sample"
	"hypercube/term"
)

// P13.4.

// pruned tells a term without the branches whose face is never.
func pruned(t api.Term) api.Term {
	out, _ := goesOver(t, func(r row, _ bool, _ int) (row, api.Errno) { return r, api.OK })
	return out
}

// Put of i's own formula changes nothing, if no face is never; else branches that are never go, and no more.
func TestPutOfItself(t *testing.T) {
	same, other := 0, 0
	for _, x := range sample.GrownTerms(3000) {
		want := pruned(x.T)
		if term.Same(want, x.T) {
			same++
		} else {
			other++
		}
		for i := range 24 {
			own, _ := formula.Dim(i)
			got, e := Put(x.T, i, own)
			answer(t, "Put", got, e, want, api.OK)
		}
	}
	if same < 1000 || other < 300 {
		t.Errorf("too few to tell: %d, %d", same, other)
	}
}

// What was lifted from i on by 1 is as it was by Take of i, whatever is put there.
func TestTakeOfWhatWasLifted(t *testing.T) {
	formulas := sample.Formulas(40, 1<<23-1)
	told := 0
	for seed, x := range sample.GrownTerms(3000) {
		want := pruned(x.T)
		for i := range 16 {
			lifted, e := lift.Dims(x.T, i, 1)
			if e != api.OK {
				continue
			}
			told++
			got, e := Take(lifted, i, formulas[(seed+i)%len(formulas)])
			answer(t, "Take", got, e, want, api.OK)
		}
	}
	if told < 30000 {
		t.Errorf("only %d were told", told)
	}
}

// toldTerm is an answer, or a refusal, that the next call begins with.
type toldTerm struct {
	t api.Term
	e api.Errno
}

func (x toldTerm) by(call func(api.Term, int, row) (api.Term, api.Errno), i int, r row) toldTerm {
	if x.e != api.OK {
		return x
	}
	out, e := call(x.t, i, r)
	return toldTerm{out, e}
}

func (x toldTerm) at(n int, u toldTerm) toldTerm {
	if x.e != api.OK || u.e != api.OK {
		return toldTerm{e: max(x.e, u.e)}
	}
	out, e := plug.At(x.t, n, u.t)
	return toldTerm{out, e}
}

// Put and At go through one another, and so do Take and At.
func TestPutAndAt(t *testing.T) {
	done, used := 0, 0
	for seed := range uint32(4000) {
		g := sample.Grow(seed)
		x, u := toldTerm{t: g.Term(3, 6, g.Below(90))}, toldTerm{t: g.Term(3, 6, g.Below(30))}
		for n := range 3 {
			i, r := g.Below(6), g.Row(7, false)
			for name, call := range calls() {
				one, other := x.at(n, u).by(call, i, r), x.by(call, i, r).at(n, u.by(call, i, r))
				if one.e != api.OK || other.e != api.OK {
					continue
				}
				answer(t, name+" through At", one.t, one.e, other.t, other.e)
				done++
				if term.Uses(x.t, n) && term.Dims(x.t)>>i&1 == 1 && term.Dims(u.t)>>i&1 == 1 {
					used++
				}
			}
		}
		if t.Failed() {
			t.Fatalf("the seed %d: %s, %s", seed, short(x.t), short(u.t))
		}
	}
	if done < 20000 || used < 2000 {
		t.Errorf("too few to tell: %d, %d", done, used)
	}
}

// A dimension that something was put for is there only by what was put; Take has one less.
func TestWhatIsThere(t *testing.T) {
	told := 0
	for seed, x := range sample.GrownTerms(2000) {
		r := sample.Grow(uint32(seed)).Row(8, false)
		for i := range 6 {
			got, e := Put(x.T, i, r)
			if e != api.OK {
				continue
			}
			told++
			if more := term.Dims(got) &^ (term.Dims(x.T)&^(1<<i) | formula.Dims(r)); more != 0 {
				t.Fatalf("Put(%s, %d, %v) has %b", short(x.T), i, r, more)
			}
			if term.Dims(x.T)>>i&1 == 0 && !term.Same(got, pruned(x.T)) {
				t.Fatalf("Put(%s, %d, %v) was not there", short(x.T), i, r)
			}
			if i < x.Dims && term.Right(got, x.Vars, max(x.Dims, 8)) != api.OK && term.Right(x.T, x.Vars, max(x.Dims, 8)) == api.OK {
				t.Fatalf("Put(%s, %d, %v) may not be", short(x.T), i, r)
			}
		}
	}
	if told < 8000 {
		t.Errorf("only %d were told", told)
	}
}

// facesAgree holds the faces of a term under a clause against what Restrict tells of those that it had; behind binders the clause is lifted. A clause without a dimension that there can be says nothing there.
func facesAgree(t *testing.T, was, is api.Term, c api.Clause, behind int) {
	t.Helper()
	lifted := both(uint32(uint64(c.Pos)<<behind)&sample.Full, uint32(uint64(c.Neg)<<behind)&sample.Full)
	restricted := func(f row) row {
		out, e := face.Restrict(f, lifted)
		if e != api.OK {
			t.Fatalf("Restrict is refused: %d", e)
		}
		return out
	}
	f := sample.Forms()[was.Kind]
	if f.Face && !slices.Equal(is.R, restricted(was.R)) {
		t.Errorf("%v under %v", was.R, c)
	}
	kids := func(l, k []api.Term, binds string) {
		for n := range l {
			_, inside := sample.Inside(binds[n], 0, behind)
			facesAgree(t, l[n], k[n], c, inside)
		}
	}
	kids(was.Kids, is.Kids, f.Kids)
	left := is.Sys
	for _, b := range was.Sys {
		where := restricted(b.Face)
		if len(where) == 0 {
			continue
		}
		if len(left) == 0 || !slices.Equal(left[0].Face, where) {
			t.Fatalf("%v under %v", b.Face, c)
		}
		kids(b.Kids, left[0].Kids, f.Branch)
		left = left[1:]
	}
	if len(left) > 0 {
		t.Errorf("%d branches too many under %v", len(left), c)
	}
}

// A term under c has none of c's dimensions, and its faces are those that Restrict tells; of a clause that says nothing it is as it was.
func TestUnderAClause(t *testing.T) {
	for seed, x := range sample.GrownTerms(3000) {
		got, e := Under(x.T, api.Clause{})
		answer(t, "Under nothing", got, e, x.T, api.OK)
		for k, s := range sample.Spread(uint32(seed), 6) {
			c := both(s&(s>>7)&sample.Full, s>>3&sample.Full)
			c.Neg &^= c.Pos
			if k < 3 {
				c = both(c.Pos&0x3f, c.Neg&0x3f&^(c.Neg>>1))
			}
			got, e := Under(x.T, c)
			if e != api.OK || term.Dims(got)&(c.Pos|c.Neg) != 0 {
				t.Fatalf("Under(%s, %v) = %s, %d", short(x.T), c, short(got), e)
			}
			if c != (api.Clause{}) {
				facesAgree(t, x.T, got, c, 0)
			}
			again, e := Under(got, c)
			answer(t, "Under twice", again, e, got, api.OK)
		}
	}
}

// Under both of two clauses is under one, and then under the other.
func TestUnderTwoClauses(t *testing.T) {
	for seed, x := range sample.GrownTerms(1500) {
		s := sample.Spread(uint32(seed)+5000, 3)
		a := both(s[0]&0xff, s[1]&0xff&^s[0])
		b := both(s[2]&0xff&^a.Neg, s[2]>>8&0xff&^s[2]&^a.Pos)
		want, wantE := Under(x.T, both(a.Pos|b.Pos, a.Neg|b.Neg))
		for _, two := range [][2]api.Clause{{a, b}, {b, a}} {
			got, e := Under(x.T, two[0])
			if e == api.OK {
				got, e = Under(got, two[1])
			}
			answer(t, "Under two", got, e, want, wantE)
		}
	}
}

// allCalls tells all three with their arguments fixed, each with a formula that is handed in anew.
func allCalls(r row) map[string]func(api.Term) (api.Term, api.Errno) {
	return map[string]func(api.Term) (api.Term, api.Errno){
		"Put": func(x api.Term) (api.Term, api.Errno) { return Put(x, 0, r) }, "Put of the last": func(x api.Term) (api.Term, api.Errno) { return Put(x, 23, r) }, "Take": func(x api.Term) (api.Term, api.Errno) { return Take(x, 1, r) }, "Take of the last": func(x api.Term) (api.Term, api.Errno) { return Take(x, 23, r) },
		"Under": func(x api.Term) (api.Term, api.Errno) { return Under(x, both(1, 4)) }, "Under nothing": func(x api.Term) (api.Term, api.Errno) { return Under(x, api.Clause{}) }, "Under what is not there": func(x api.Term) (api.Term, api.Errno) { return Under(x, neg(sample.Last)) },
	}
}

// The rules that hold everywhere: what is handed in stays as it is, its spare room too, and what lies there is not read; what is handed out is of its own memory.
func TestMemory(t *testing.T) {
	for seed, s := range append(sample.GrownTerms(800), sample.Scoped{T: pair(loop(0), pair(loop(0), loop(1)))}) {
		r := []row{{pos(8)}, {neg(2), pos(4)}, one, zero, {pos(sample.Last)}}[seed%5]
		plain := allCalls(r)
		roomy := sample.Roomy(loops(r...))
		roomyBefore := sample.Whole(roomy)
		for name, call := range allCalls(roomy.R) {
			x := sample.Roomy(s.T)
			before := sample.Whole(x)
			want, wantE := plain[name](s.T)
			got, e := call(x)
			answer(t, name, got, e, want, wantE)
			if !reflect.DeepEqual(sample.Plain(sample.Whole(got)), sample.Plain(sample.Whole(want))) {
				t.Fatalf("%s(%s): what lies in the spare room was handed out", name, short(s.T))
			}
			if twice := sample.Spoil([]api.Term{got}); twice > 0 {
				t.Fatalf("%s(%s): lists of one answer share memory", name, short(s.T))
			}
			if !reflect.DeepEqual(before, sample.Whole(x)) || !reflect.DeepEqual(roomyBefore, sample.Whole(roomy)) {
				t.Fatalf("%s(%s): what was handed in was changed, or handed out", name, short(s.T))
			}
			got, e = call(x)
			answer(t, name+" again", got, e, want, wantE)
		}
	}
}

// A part that stands in two places of one term is told for each.
func TestWhatIsShared(t *testing.T) {
	part := grown(grown(node(api.HComp, loop(0), lam(loop(1))), row{neg(1)}, loop(1)), row{neg(2)}, loop(2))
	x := grown(grown(node(api.Glue, part), part.Sys[1].Face, part, part), part.Sys[1].Face, part, part)
	for name, call := range allCalls(row{pos(8)}) {
		got, e := call(x)
		want, wantE := call(term.Copy(x))
		answer(t, name, got, e, want, wantE)
		if e != api.OK || sample.Spoil([]api.Term{got}) > 0 {
			t.Errorf("%s: parts of an answer share memory", name)
		}
	}
}

// A list without an element may be nil or empty.
func TestEmptyLists(t *testing.T) {
	for _, s := range append(sample.GrownTerms(1000), sample.Scoped{T: univ}, sample.Scoped{T: loops()}, sample.Scoped{T: glued(nil, univ)}, sample.Scoped{T: transp()}) {
		for _, r := range [][2]row{{{pos(8)}, {pos(8)}}, {nil, {}}} {
			empty := allCalls(r[1])
			for name, call := range allCalls(r[0]) {
				want, wantE := call(s.T)
				got, e := empty[name](sample.Plain(s.T))
				answer(t, name, got, e, want, wantE)
			}
		}
	}
}
