package hcomp

import (
	"reflect"
	"slices"
	"testing"

	"hypercube/api"
	"hypercube/beta"
	"hypercube/build"
	"hypercube/dims"
	"hypercube/lift"
	"hypercube/plug"
	"hypercube/sample"
	"hypercube/term"
)

// P20.2, and what else follows.

// scoped is a term that may be in so many variables and dimensions.
type scoped struct {
	api.Term
	vars, dims int
}

// comers tells terms that mostly become something, in types of all kinds.
func comers(seeds uint32, nodes int) []scoped {
	var out []scoped
	for seed := range seeds {
		c := comer{sample.Grow(seed)}
		vars, dims := c.Below(5), c.Below(10)
		out = append(out, scoped{c.grow(vars, dims, 1+c.Below(nodes)), vars, dims})
	}
	return out
}

// ofKind tells compositions in types of one kind.
func ofKind(seeds uint32, kind int) []scoped {
	return slices.DeleteFunc(comers(seeds, 10), func(x scoped) bool { return x.Kids[0].Kind != kind })
}

// becoming tells what a term becomes, and in which kind of types: none, if it becomes nothing.
func becoming(t *testing.T, x api.Term) (api.Term, int) {
	t.Helper()
	got, ok, e := Step(x)
	if e != api.OK {
		t.Fatalf("Step(%s) = %t, %d", short(x), ok, e)
	}
	if !ok {
		return got, 0
	}
	return got, x.Kids[0].Kind
}

// agree holds that a term becomes what is wanted.
func agree(t *testing.T, x, want api.Term) {
	t.Helper()
	if got, _ := becoming(t, x); !term.Same(got, want) {
		t.Fatalf("%s becomes %s, not %s", short(x), short(got), short(want))
	}
}

// enough holds that each kind of types was there often, of those that are made here three times as often.
func enough(t *testing.T, kinds map[int]int, least int) {
	t.Helper()
	for _, kind := range []int{api.Pi, api.Sigma, api.Path, api.Univ, api.Glue} {
		if n := kinds[kind]; n < least || n < 3*least && kind != api.Glue {
			t.Errorf("the kind %d was there %d times only", kind, n)
		}
	}
}

// taken tells a term with a formula in a dimension's place, which is gone.
func taken(t *testing.T, x api.Term, i int, r row) api.Term {
	t.Helper()
	got, e := dims.Take(x, i, r)
	if e != api.OK {
		t.Fatalf("Take of %s is refused: %d", short(x), e)
	}
	return got
}

// put tells a term with a formula in a dimension's place.
func put(t *testing.T, x api.Term, i int, r row) api.Term {
	t.Helper()
	got, e := dims.Put(x, i, r)
	if e != api.OK {
		t.Fatalf("Put of %v in %s is refused: %d", r, short(x), e)
	}
	return got
}

// neverless tells a term without branches that never are.
func neverless(t *testing.T, x api.Term) api.Term { return put(t, x, 0, own) }

// A step keeps a term in its scope.
func TestScope(t *testing.T) {
	kinds := map[int]int{}
	for _, x := range comers(4000, 12) {
		if e := term.Right(x.Term, x.vars, x.dims); e != api.OK {
			t.Fatalf("%s may not be: %d", short(x.Term), e)
		}
		got, kind := becoming(t, x.Term)
		kinds[kind]++
		if kind == 0 {
			continue
		}
		if e := term.Right(got, x.vars, x.dims); e != api.OK || !sample.MayBe(got, x.vars, x.dims) {
			t.Fatalf("%s becomes %s, which may not be: %d", short(x.Term), short(got), e)
		}
	}
	enough(t, kinds, 100)
}

// A composition of functions is a function, of pairs a pair, of paths a path; of types it is a glued type, with as many branches, with the same faces.
func TestKinds(t *testing.T) {
	kinds := map[int]int{}
	for _, x := range comers(4000, 12) {
		got, kind := becoming(t, x.Term)
		kinds[kind]++
		if want := map[int]int{api.Pi: api.Lam, api.Sigma: api.Pair, api.Path: api.PLam, api.Univ: api.Glue, api.Glue: api.MkGlue}[kind]; want != 0 && got.Kind != want {
			t.Fatalf("%s becomes %s", short(x.Term), short(got))
		}
		if kind == api.Univ && !slices.EqualFunc(got.Sys, x.Sys, func(a, b api.Branch) bool { return slices.Equal(a.Face, b.Face) }) {
			t.Fatalf("%s becomes %s", short(x.Term), short(got))
		}
	}
	enough(t, kinds, 100)
}

// A formula in a dimension's place: put there ahead, or behind.
func TestAndPut(t *testing.T) {
	kinds, changed := map[int]int{}, 0
	for n, x := range comers(4000, 10) {
		got, kind := becoming(t, x.Term)
		if kind == 0 || x.dims == 0 {
			continue
		}
		g := sample.Grow(uint32(n) + 77)
		i, r := g.Below(x.dims), g.Row(x.dims, false)
		want := put(t, got, i, r)
		agree(t, put(t, x.Term, i, r), want)
		kinds[kind]++
		if !term.Same(want, got) {
			changed++
		}
	}
	enough(t, kinds, 80)
	if changed < 1500 {
		t.Errorf("too few to tell: %d", changed)
	}
}

// What is lifted becomes what is lifted: nothing of the outside is bound.
func TestAndLift(t *testing.T) {
	kinds := map[int]int{}
	for _, x := range comers(3000, 10) {
		got, kind := becoming(t, x.Term)
		kinds[kind]++
		for _, by := range [][2]int{{1, 0}, {0, 1}, {3, 2}} {
			above, e := lift.Both(x.Term, by[0], by[1])
			want, e2 := api.Term{}, api.OK
			if kind != 0 {
				want, e2 = lift.Both(got, by[0], by[1])
			}
			if e != api.OK || e2 != api.OK {
				t.Fatalf("%s: %d, %d", short(x.Term), e, e2)
			}
			agree(t, above, want)
		}
	}
	enough(t, kinds, 70)
}

// A term in a variable's place: put there ahead, or behind. (A branch that never is goes by the one road ahead of the other.)
func TestAndPlug(t *testing.T) {
	kinds := map[int]int{}
	for n, x := range comers(5000, 10) {
		got, kind := becoming(t, x.Term)
		if kind == 0 || x.vars == 0 {
			continue
		}
		g := sample.Grow(uint32(n) + 5)
		at, u := g.Below(x.vars), g.Term(x.vars, x.dims, g.Below(8))
		ahead, e := plug.At(x.Term, at, u)
		want, e2 := plug.At(got, at, u)
		if e != api.OK || e2 != api.OK {
			t.Fatalf("%s: %d, %d", short(x.Term), e, e2)
		}
		was, _ := becoming(t, ahead)
		if !term.Same(neverless(t, was), neverless(t, want)) {
			t.Fatalf("%s with %s becomes %s, not %s", short(x.Term), short(u), short(was), short(want))
		}
		kinds[kind]++
	}
	enough(t, kinds, 70)
}

// stepped tells what a term steps to.
func stepped(t *testing.T, x api.Term) api.Term {
	t.Helper()
	got, ok, e := beta.Step(x)
	if !ok || e != api.OK {
		t.Fatalf("Step(%s) = %t, %d", short(x), ok, e)
	}
	return got
}

// total tells a composition with a branch ahead that is always, and what that is at its end.
func total(t *testing.T, x scoped, seed int) (with api.Term, end api.Term) {
	t.Helper()
	u := sample.Grow(uint32(seed)+9).Term(x.vars, x.dims+1, 8)
	with = x.Term
	with.Sys = append(system{at(always, u)}, x.Sys...)
	return with, taken(t, u, 0, always)
}

// Where a branch is total, each part of what a composition became steps to that part of what the branch is at its end.
func TestTotalEnds(t *testing.T) {
	for n, x := range ofKind(3000, api.Pi) {
		with, end := total(t, x, n)
		got, _ := becoming(t, with)
		if f, e := lift.Both(end, 1, 0); e != api.OK || !term.Same(stepped(t, got.Kids[0]), app(f, v(0))) {
			t.Fatalf("%s becomes %s", short(with), short(got))
		}
	}
	for n, x := range ofKind(3000, api.Sigma) {
		with, end := total(t, x, n)
		got, _ := becoming(t, with)
		if first, second := stepped(t, got.Kids[0]), stepped(t, stepped(t, got.Kids[1])); !term.Same(first, fst(end)) || !term.Same(second, snd(end)) {
			t.Fatalf("%s becomes %s", short(with), short(got))
		}
	}
	for n, x := range ofKind(3000, api.Path) {
		with, end := total(t, x, n)
		got, _ := becoming(t, with)
		p := stepped(t, got.Kids[0])
		if a, e := lift.Both(end, 0, 1); e != api.OK || p.Kind != api.PApp || !slices.Equal(p.R, own) || !term.Same(p.Kids[0], a) {
			t.Fatalf("%s becomes %s", short(with), short(got))
		}
	}
	for n, x := range ofKind(3000, api.Univ) {
		with, end := total(t, x, n)
		got, _ := becoming(t, with)
		if !term.Same(stepped(t, got), end) {
			t.Fatalf("%s becomes %s", short(with), short(got))
		}
	}
}

// A path's ends stay: at its own ends what a composition of paths became steps to the ends of the type.
func TestEndsOfPaths(t *testing.T) {
	times := 0
	for _, x := range ofKind(4000, api.Path) {
		got, _ := becoming(t, x.Term)
		if !term.Same(got.Kids[0].Kids[0], x.Kids[0].Kids[0]) {
			t.Fatalf("%s becomes %s", short(x.Term), short(got))
		}
		for n, end := range []row{never, always} {
			// Where another branch is always, that would tell it.
			there := taken(t, got.Kids[0], 0, end)
			there.Sys = there.Sys[len(there.Sys)-1:]
			want := neverless(t, x.Kids[0].Kids[1+n])
			if u := stepped(t, there); !term.Same(u, want) {
				t.Fatalf("%s becomes %s, and steps to %s at an end, not %s", short(x.Term), short(got), short(u), short(want))
			}
			times++
		}
	}
	if times < 1200 {
		t.Errorf("too few to tell: %d", times)
	}
}

// What a function tells of a thing, and a pair's first part, is composed likewise: of what the base tells, and the branches.
func TestWhatIsComposed(t *testing.T) {
	for _, x := range ofKind(3000, api.Pi) {
		got, _ := becoming(t, x.Term)
		h := got.Kids[0]
		if !term.Same(h.Kids[0], x.Kids[0].Kids[1]) || len(h.Sys) != len(x.Sys) {
			t.Fatalf("%s becomes %s", short(x.Term), short(got))
		}
		// Any variable may be handed to it: the one that it was lifted by is used there alone.
		applied, e := plug.At(h, 0, base)
		if e != api.OK || !term.Same(applied.Kids[1], app(x.Kids[1], base)) {
			t.Fatalf("%s becomes %s", short(x.Term), short(got))
		}
		for n, b := range applied.Sys {
			if !slices.Equal(b.Face, x.Sys[n].Face) || !term.Same(b.Kids[0], app(x.Sys[n].Kids[0], base)) {
				t.Fatalf("%s becomes %s", short(x.Term), short(got))
			}
		}
	}
	for _, x := range ofKind(3000, api.Sigma) {
		got, _ := becoming(t, x.Term)
		first := got.Kids[0]
		sys := slices.Clone(x.Sys)
		for n, b := range sys {
			sys[n].Kids = []api.Term{fst(b.Kids[0])}
		}
		if !term.Same(first, comp(x.Kids[0].Kids[0], fst(x.Kids[1]), sys...)) {
			t.Fatalf("%s becomes %s", short(x.Term), short(got))
		}
		// At its end a filler is the composition: the second part is of the second type of that.
		in, e := plug.At(x.Kids[0].Kids[1], 0, first)
		if e != api.OK || !term.Same(neverless(t, got.Kids[1].Kids[0]), neverless(t, in)) {
			t.Fatalf("%s becomes %s", short(x.Term), short(got))
		}
	}
}

// What is glued of types is what each branch's line is at its end, with an equivalence that begins as the identity: at its own beginning the type of equivalences is that of the line's beginning with the base.
func TestEquivalences(t *testing.T) {
	for _, x := range ofKind(3000, api.Univ) {
		got, _ := becoming(t, x.Term)
		for n, b := range got.Sys {
			line := x.Sys[n].Kids[0]
			if !term.Same(b.Kids[0], taken(t, line, 0, always)) || len(b.Kids[1].R) > 0 || !term.Same(b.Kids[1].Kids[1], build.Id()) {
				t.Fatalf("%s becomes %s", short(x.Term), short(got))
			}
			for _, r := range []row{never, always} {
				want, e := build.Equiv(taken(t, line, 0, r), x.Kids[1])
				if e != api.OK || !term.Same(taken(t, b.Kids[1].Kids[0], 0, r), neverless(t, want)) {
					t.Fatalf("%s becomes %s", short(x.Term), short(got))
				}
			}
		}
	}
}

// The rules that hold everywhere: what is handed in stays as it is, its spare room too, and what lies there is not read; what is handed out is of its own memory.
func TestMemory(t *testing.T) {
	for _, s := range comers(1500, 10) {
		x := sample.Roomy(s.Term)
		before := sample.Whole(x)
		want, wantOK, wantE := Step(s.Term)
		for range 2 {
			got, ok, e := Step(x)
			if e != wantE || ok != wantOK || !term.Same(got, want) {
				t.Fatalf("Step(%s) = %s, %t, %d, not %s, %t, %d", short(x), short(got), ok, e, short(want), wantOK, wantE)
			}
			if !reflect.DeepEqual(sample.Plain(sample.Whole(got)), sample.Plain(sample.Whole(want))) {
				t.Fatalf("Step(%s): what lies in the spare room was handed out", short(x))
			}
			if twice := sample.Spoil([]api.Term{got}); twice > 0 {
				t.Fatalf("Step(%s): lists of one answer share memory", short(x))
			}
			if !reflect.DeepEqual(before, sample.Whole(x)) {
				t.Fatalf("Step(%s): what was handed in was changed, or handed out", short(x))
			}
		}
	}
}

// A part that stands in several places of one term is made for each.
func TestWhatIsShared(t *testing.T) {
	part := grown(of(api.MkGlue, loop(0)), row{neg(2)}, v(0))
	f := part.Sys[0].Face
	wall := at(f, part)
	for _, in := range []api.Term{pi(part, part), sigma(part, pair(part, part)), paths(part, part, part), univ, having(api.Glue, part, at(f, part, part))} {
		x := comp(in, part, wall, wall)
		want, ok, e := Step(term.Copy(x))
		got, _, _ := Step(x)
		if !ok || e != api.OK || !term.Same(got, want) || sample.Spoil([]api.Term{got}) > 0 {
			t.Errorf("Step(%s) = %s, %t, %d, not %s; or parts of it share memory", short(x), short(got), ok, e, short(want))
		}
	}
}

// A list without an element may be nil or empty.
func TestEmptyLists(t *testing.T) {
	for _, x := range comers(1500, 10) {
		want, _, e := Step(x.Term)
		becomes(t, sample.Plain(x.Term), want, e)
	}
	for _, l := range []system{nil, {}} {
		becomes(t, comp(pi(univ, univ), base, l...), lam(comp(univ, app(base, v(0)))), api.OK)
		becomes(t, comp(sigma(univ, univ), base, l...), pair(comp(univ, fst(base)), comp(univ, along(never, univ, snd(base)))), api.OK)
		becomes(t, comp(paths(univ, univ, base), v(1), l...), plam(comp(univ, point(own, v(1), univ, base), at(row{neg(1)}, univ), at(own, base))), api.OK)
		becomes(t, comp(univ, base, l...), having(api.Glue, base), api.OK)
		nothing(t, comp(circle, base, l...))
	}
	for _, r := range []row{nil, {}} {
		becomes(t, comp(pi(univ, univ), base, at(r, univ)), lam(comp(univ, app(base, v(0)), at(never, app(univ, v(0))))), api.OK)
		if got, ok, e := Step(comp(univ, base, at(r, circle))); !ok || e != api.OK || len(got.Sys) != 1 || len(got.Sys[0].Face) > 0 || got.Sys[0].Kids[0].Kind != api.Circle {
			t.Errorf("of types: %s, %t, %d", short(got), ok, e)
		}
	}
}
