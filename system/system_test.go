package system

import (
	"fmt"
	"slices"
	"testing"

	"hypercube/api"
	"hypercube/sample"
	"hypercube/term"
)

// row is what a formula is written as, and a face.
type row = []api.Clause

// system is some branches.
type system = []api.Branch

// Short names for what the tests write most.
var (
	pos, neg, both        = sample.Pos, sample.Neg, sample.Both
	node, with            = sample.Node, sample.With
	variable, loop, times = sample.Var, sample.Loop, sample.Times
	lam, plam, fst        = sample.Lam, sample.PLam, sample.Fst
	told, refused         = sample.Told, sample.Refused
)

var (
	univ   = api.Term{Kind: api.Univ}
	never  = row{}
	always = row{{}}
	kinds  = []int{api.HComp, api.Glue, api.MkGlue, api.Unglue}
)

func branch(f row, kids ...api.Term) api.Branch { return api.Branch{Face: f, Kids: kids} }
func pair(a, b api.Term) api.Term               { return node(api.Pair, a, b) }
func loops(r ...api.Clause) api.Term            { return with(node(api.Loop), r) }

// of tells a branch of a kind with a face, each Kid of which is the term.
func of(kind int, f row, kid api.Term) api.Branch {
	return branch(f, slices.Repeat([]api.Term{kid}, len(sample.Forms()[kind].Branch))...)
}

// at tells a system of a kind with these faces; the branches are told apart by their variables.
func at(kind int, faces ...row) system {
	var out system
	for k, f := range faces {
		out = append(out, of(kind, f, variable(k)))
	}
	return out
}

// same tells whether two systems are the same.
func same(a, b system) bool {
	return term.Same(api.Term{Sys: a}, api.Term{Sys: b})
}

// answer holds an answer against what is wanted: a system, or a refusal, which has none beside it.
func answer(t *testing.T, name string, got system, e api.Errno, want system, wantE api.Errno) {
	t.Helper()
	if wantE != api.OK {
		want = nil
	}
	if e != wantE || !same(got, want) {
		t.Errorf("%s = %s, %d, not %s, %d", name, short(got), e, short(want), wantE)
	}
}

// short tells how a system begins.
func short(l system) string {
	text := fmt.Sprint(l)
	return text[:min(len(text), 300)]
}

func TestExamples(t *testing.T) {
	for _, kind := range kinds {
		l := at(kind, row{neg(1)}, row{pos(1)})
		f, e := Face(l)
		told(t, "Face", f, e, row{neg(1), pos(1)})
		if n := Total(l); n != -1 {
			t.Errorf("Total = %d", n)
		}
		got, e := Under(kind, l, pos(1))
		answer(t, "Under", got, e, system{of(kind, always, variable(1))}, api.OK)
		if n := Total(got); n != 0 {
			t.Errorf("Total = %d", n)
		}
	}
}

// P14.1.

// The first total branch is told: there is none, one or several, anywhere.
func TestTotal(t *testing.T) {
	i, two, full := row{pos(1)}, row{neg(1), pos(1)}, row{both(sample.Full&^1, 1)}
	for _, x := range []struct {
		faces []row
		want  int
	}{
		{nil, -1}, {[]row{never}, -1}, {[]row{nil}, -1}, {[]row{i}, -1}, {[]row{two}, -1}, {[]row{full}, -1}, {[]row{sample.Pairs(64)}, -1}, {[]row{{neg(1)}, {pos(1)}}, -1}, {[]row{never, i, two}, -1},
		{[]row{always}, 0}, {[]row{always, i}, 0}, {[]row{i, always}, 1}, {[]row{never, always}, 1}, {[]row{i, two, always}, 2}, {[]row{i, always, two}, 1}, {[]row{always, i, two}, 0},
		{[]row{always, always}, 0}, {[]row{i, always, always}, 1}, {[]row{never, never, two, always, i, always}, 3}, {[]row{always, never, always}, 0},
	} {
		for _, kind := range kinds {
			if got := Total(at(kind, x.faces...)); got != x.want {
				t.Errorf("Total(%v) = %d, not %d", x.faces, got, x.want)
			}
		}
	}
	for places := range 1 << 6 {
		var l system
		want := -1
		for k := range 6 {
			f := i
			if places>>k&1 == 1 {
				f = always
				if want < 0 {
					want = k
				}
			}
			l = append(l, branch(f))
		}
		if got := Total(l); got != want {
			t.Errorf("Total of %b = %d, not %d", places, got, want)
		}
	}
}

// Always is the top alone: a row with more than the top is none that may be, and always neither. What a branch has beside its face is not looked at.
func TestTotalOfWhatMayNotBe(t *testing.T) {
	top := api.Clause{}
	for _, f := range []row{{top, top}, {top, pos(1)}, {pos(1), top}, {pos(1 << 24)}, {both(1, 1)}, sample.Pairs(65), slices.Repeat(always, 1000)} {
		if got := Total(system{branch(f, univ), branch(always, univ)}); got != 1 {
			t.Errorf("Total behind %v = %d, not 1", f[:1], got)
		}
		if got := Total(system{branch(f, univ)}); got != -1 {
			t.Errorf("Total of %v = %d, not -1", f[:1], got)
		}
	}
	for _, kids := range [][]api.Term{nil, {}, {univ}, {univ, univ, univ}, {{}}, {times(300, univ, fst)}} {
		if got := Total(system{branch(always, kids...), branch(never, kids...)}); got != 0 {
			t.Errorf("Total = %d, not 0", got)
		}
		if got := Total(system{branch(never, kids...)}); got != -1 {
			t.Errorf("Total = %d, not -1", got)
		}
	}
}

// All faces, joined: needless clauses go, and each is there once.
func TestFace(t *testing.T) {
	i, j, two := row{pos(1)}, row{pos(2)}, row{neg(1), pos(1)}
	full := row{both(sample.Full&^1, 1)}
	for _, x := range []struct {
		faces []row
		want  row
	}{
		{nil, never}, {[]row{never}, never}, {[]row{nil, never, nil}, never}, {[]row{always}, always}, {[]row{i}, i}, {[]row{two}, two}, {[]row{full}, full}, {[]row{sample.Pairs(64)}, sample.Pairs(64)},
		{[]row{i, j}, row{pos(1), pos(2)}}, {[]row{j, i}, row{pos(1), pos(2)}}, {[]row{i, i}, i}, {[]row{i, j, i}, row{pos(1), pos(2)}}, {[]row{i, never, j}, row{pos(1), pos(2)}}, {[]row{never, i}, i}, {[]row{i, never}, i},
		{[]row{always, i}, always}, {[]row{i, always}, always}, {[]row{i, always, j}, always}, {[]row{always, always}, always}, {[]row{never, always}, always}, {[]row{two, always, never}, always},
		{[]row{{pos(3)}, i}, i}, {[]row{i, {pos(3)}}, i}, {[]row{{pos(3)}, {both(1, 2)}}, row{both(1, 2), pos(3)}}, {[]row{{both(1, 2), pos(4)}, i}, row{pos(1), pos(4)}}, {[]row{two, {pos(3), pos(6)}}, row{neg(1), pos(1), pos(6)}},
		{[]row{{neg(1)}, {pos(1)}}, two}, {[]row{two, two}, two}, {[]row{{pos(1)}, {neg(1)}, {pos(2)}, {neg(2)}}, row{neg(1), neg(2), pos(1), pos(2)}}, {[]row{{neg(sample.Last)}, {pos(sample.Last)}, {pos(1)}}, row{neg(sample.Last), pos(1), pos(sample.Last)}},
		{[]row{sample.Pairs(64), sample.Pairs(64)}, sample.Pairs(64)}, {[]row{sample.Pairs(40), sample.Pairs(64)}, sample.Pairs(64)}, {[]row{sample.Pairs(64), always}, always}, {[]row{sample.Pairs(60), sample.Pairs(64)[60:]}, sample.Pairs(64)},
	} {
		for _, kind := range kinds {
			got, e := Face(at(kind, x.faces...))
			told(t, "Face", got, e, x.want)
		}
	}
	var each system
	var want row
	for n := range 24 {
		each = append(each, branch(row{pos(1 << n)}), branch(row{neg(1 << n)}))
	}
	want = append(want, sample.Singles(0, 24)...)
	for n := range 24 {
		want = append(want, neg(1<<n))
	}
	got, e := Face(each)
	told(t, "Face", got, e, sample.Least(want))
}

// A branch's Kids are not looked at, whatever they are.
func TestFaceWithoutKids(t *testing.T) {
	for _, kids := range [][]api.Term{nil, {}, {univ}, {univ, univ, univ}, {{}}, {variable(-1)}, {times(300, univ, fst)}, {sample.Balanced(20001)}} {
		got, e := Face(system{branch(row{pos(1)}, kids...), branch(row{pos(2)}), branch(never, kids...)})
		told(t, "Face", got, e, row{pos(1), pos(2)})
	}
}

// Faces that may not be are refused, and more clauses than there may be: what comes first, from the left.
func TestFaceRefused(t *testing.T) {
	many, others := sample.Pairs(64), sample.Pairs(70)[64:]
	for _, x := range []struct {
		faces []row
		want  api.Errno
	}{
		{[]row{many, others}, api.ErrBig}, {[]row{others, many}, api.ErrBig}, {[]row{many, others[:1]}, api.ErrBig}, {[]row{never, many, never, others[:1], never}, api.ErrBig}, {[]row{many, {pos(sample.Last)}}, api.ErrBig},
		// Whatever would make them fewer stands behind.
		{[]row{many, others, always}, api.ErrBig}, {[]row{many, others, sample.Singles(0, 24)}, api.ErrBig}, {[]row{always, many, others}, api.OK}, {[]row{many, always, others}, api.OK}, {[]row{sample.Singles(0, 24), many, others}, api.OK},
		{[]row{many, others, {both(1, 1)}}, api.ErrBig}, {[]row{many, {both(1, 1)}, others}, api.ErrArg}, {[]row{{both(1, 1)}, many, others}, api.ErrArg}, {[]row{{pos(1 << 24)}, many, others}, api.ErrArg}, {[]row{many, others, {pos(1 << 24)}}, api.ErrBig},
		{[]row{always, {both(1, 1)}}, api.ErrArg}, {[]row{{both(1, 1)}, always}, api.ErrArg}, {[]row{never, {pos(1), pos(1)}}, api.ErrArg}, {[]row{sample.Pairs(65)}, api.ErrArg}, {[]row{sample.Pairs(65), always}, api.ErrArg},
	} {
		got, e := Face(at(api.HComp, x.faces...))
		if x.want == api.OK && e == api.OK {
			continue
		}
		refused(t, "Face", got, e, x.want)
	}
	for _, f := range sample.WrongFaces() {
		for _, around := range []row{never, always, {pos(1)}, many, {neg(2), pos(2)}} {
			for _, faces := range [][]row{{f}, {around, f}, {f, around}, {around, f, around}, {around, around, f}, {f, f}} {
				got, e := Face(at(api.Unglue, faces...))
				refused(t, "Face", got, e, api.ErrArg)
			}
		}
	}
}
