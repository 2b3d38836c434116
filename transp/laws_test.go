package transp

import (
	"reflect"
	"slices"
	"testing"

	"hypercube/api"
	"hypercube/beta"
	"hypercube/dims"
	"hypercube/lift"
	"hypercube/plug"
	"hypercube/sample"
	"hypercube/term"
)

// P19.3, and what else follows.

// scoped is a term that may be in so many variables and dimensions.
type scoped struct {
	api.Term
	vars, dims int
}

// comers tells terms that mostly become something, along lines of all kinds.
func comers(seeds uint32, nodes int) []scoped {
	var out []scoped
	for seed := range seeds {
		c := comer{sample.Grow(seed)}
		vars, dims := c.Below(5), c.Below(10)
		out = append(out, scoped{c.grow(vars, dims, 1+c.Below(nodes)), vars, dims})
	}
	return out
}

// becoming tells what a term becomes, and along which kind of lines: none, if it becomes nothing.
func becoming(t *testing.T, x api.Term) (api.Term, int) {
	t.Helper()
	got, ok, e := Step(x)
	if e != api.OK {
		t.Fatalf("Step(%s) = %t, %d", short(x), ok, e)
	}
	if !ok {
		return got, 0
	}
	return got, x.Kids[0].Kind
}

// agree holds that a term becomes what is wanted.
func agree(t *testing.T, x, want api.Term) {
	t.Helper()
	if got, _ := becoming(t, x); !term.Same(got, want) {
		t.Fatalf("%s becomes %s, not %s", short(x), short(got), short(want))
	}
}

// enough holds that each kind of lines was there often, of those that are made here three times as often.
func enough(t *testing.T, kinds map[int]int, least int) {
	t.Helper()
	for _, kind := range []int{api.Univ, api.Circle, api.Pi, api.Sigma, api.Path, api.Susp, api.Glue} {
		if n := kinds[kind]; n < least || n < 3*least && (kind == api.Pi || kind == api.Sigma || kind == api.Path) {
			t.Errorf("the kind %d was there %d times only", kind, n)
		}
	}
}

// swapOf tells a term with two dimensions exchanged.
func swapOf(t *testing.T, x api.Term) api.Term {
	t.Helper()
	got, e := Swap(x)
	if e != api.OK {
		t.Fatalf("Swap(%s) is refused: %d", short(x), e)
	}
	return got
}

// Swap twice is the term, but for branches that never are, which go; what is exchanged may be wherever the term may be, if there are both dimensions.
func TestSwapTwice(t *testing.T) {
	same, changed := 0, 0
	for _, x := range sample.GrownTerms(4000) {
		once := swapOf(t, x.T)
		twice, all := swapOf(t, once), neverless(t, x.T)
		if !term.Same(twice, all) {
			t.Fatalf("%s, swapped twice, is %s", short(x.T), short(twice))
		}
		if e := term.Right(once, x.Vars, max(2, x.Dims)); e != api.OK {
			t.Fatalf("%s, swapped, is %s, which may not be: %d", short(x.T), short(once), e)
		}
		if !term.Same(once, all) {
			changed++
			if term.Same(all, x.T) {
				same++
			}
		}
	}
	if same < 1000 || changed < 1300 {
		t.Errorf("too few to tell: %d, %d", same, changed)
	}
}

// What is told of the one dimension ahead is told of the other one behind; and all others stay.
func TestSwapAndTake(t *testing.T) {
	changed := 0
	for n, x := range sample.GrownTerms(4000) {
		once := swapOf(t, x.T)
		for _, r := range []row{never, always} {
			for i := range 2 {
				if !term.Same(taken(t, once, i, r), taken(t, x.T, 1-i, r)) {
					t.Fatalf("%s, swapped, is %s", short(x.T), short(once))
				}
			}
		}
		g := sample.Grow(uint32(n))
		i, r := 2+g.Below(8), shift(g.Row(7, false), 0, 2)
		if !term.Same(put(t, once, i, r), swapOf(t, put(t, x.T, i, r))) {
			t.Fatalf("%s, swapped, is %s", short(x.T), short(once))
		}
		if !term.Same(once, x.T) {
			changed++
		}
	}
	if changed < 1300 {
		t.Errorf("too few to tell: %d", changed)
	}
}

// taken tells a term with a formula in a dimension's place, which is gone.
func taken(t *testing.T, x api.Term, i int, r row) api.Term {
	t.Helper()
	got, e := dims.Take(x, i, r)
	if e != api.OK {
		t.Fatalf("Take of %s is refused: %d", short(x), e)
	}
	return got
}

// put tells a term with a formula in a dimension's place.
func put(t *testing.T, x api.Term, i int, r row) api.Term {
	t.Helper()
	got, e := dims.Put(x, i, r)
	if e != api.OK {
		t.Fatalf("Put of %v in %s is refused: %d", r, short(x), e)
	}
	return got
}

// neverless tells a term without branches that never are.
func neverless(t *testing.T, x api.Term) api.Term { return put(t, x, 0, own) }

// A step keeps a term in its scope.
func TestScope(t *testing.T) {
	kinds := map[int]int{}
	for _, x := range comers(4000, 12) {
		if e := term.Right(x.Term, x.vars, x.dims); e != api.OK {
			t.Fatalf("%s may not be: %d", short(x.Term), e)
		}
		got, kind := becoming(t, x.Term)
		kinds[kind]++
		if kind == 0 {
			continue
		}
		if e := term.Right(got, x.vars, x.dims); e != api.OK || !sample.MayBe(got, x.vars, x.dims) {
			t.Fatalf("%s becomes %s, which may not be: %d", short(x.Term), short(got), e)
		}
	}
	enough(t, kinds, 80)
}

// What is carried along a line of functions is a function, of pairs a pair, of paths a path; along one of glued types it is glued.
func TestKinds(t *testing.T) {
	kinds := map[int]int{}
	for _, x := range comers(4000, 12) {
		got, kind := becoming(t, x.Term)
		kinds[kind]++
		if want := map[int]int{api.Pi: api.Lam, api.Sigma: api.Pair, api.Path: api.PLam, api.Glue: api.MkGlue}[kind]; want != 0 && got.Kind != want {
			t.Fatalf("%s becomes %s", short(x.Term), short(got))
		}
		if (kind == api.Univ || kind == api.Circle) && !term.Same(got, x.Kids[1]) {
			t.Fatalf("%s becomes %s", short(x.Term), short(got))
		}
	}
	enough(t, kinds, 80)
}

// A formula in a dimension's place: put there ahead, or behind.
func TestAndPut(t *testing.T) {
	kinds, changed := map[int]int{}, 0
	for n, x := range comers(4000, 10) {
		got, kind := becoming(t, x.Term)
		if kind == 0 || x.dims == 0 {
			continue
		}
		g := sample.Grow(uint32(n) + 77)
		i, r := g.Below(x.dims), g.Row(x.dims, false)
		want := put(t, got, i, r)
		agree(t, put(t, x.Term, i, r), want)
		kinds[kind]++
		if !term.Same(want, got) {
			changed++
		}
	}
	enough(t, kinds, 60)
	if changed < 1500 {
		t.Errorf("too few to tell: %d", changed)
	}
}

// What is lifted becomes what is lifted: nothing of the outside is bound.
func TestAndLift(t *testing.T) {
	kinds := map[int]int{}
	for _, x := range comers(3000, 10) {
		got, kind := becoming(t, x.Term)
		kinds[kind]++
		for _, by := range [][2]int{{1, 0}, {0, 1}, {3, 2}} {
			above, e := lift.Both(x.Term, by[0], by[1])
			want, e2 := api.Term{}, api.OK
			if kind != 0 {
				want, e2 = lift.Both(got, by[0], by[1])
			}
			if e != api.OK || e2 != api.OK {
				t.Fatalf("%s: %d, %d", short(x.Term), e, e2)
			}
			agree(t, above, want)
		}
	}
	enough(t, kinds, 60)
}

// A term in a variable's place: put there ahead, or behind. (A branch that never is goes by the one road ahead of the other.)
func TestAndPlug(t *testing.T) {
	kinds := map[int]int{}
	for n, x := range comers(5000, 10) {
		got, kind := becoming(t, x.Term)
		if kind == 0 || x.vars == 0 {
			continue
		}
		g := sample.Grow(uint32(n) + 5)
		at, u := g.Below(x.vars), g.Term(x.vars, x.dims, g.Below(8))
		ahead, e := plug.At(x.Term, at, u)
		want, e2 := plug.At(got, at, u)
		if e != api.OK || e2 != api.OK {
			t.Fatalf("%s: %d, %d", short(x.Term), e, e2)
		}
		was, _ := becoming(t, ahead)
		if !term.Same(neverless(t, was), neverless(t, want)) {
			t.Fatalf("%s with %s becomes %s, not %s", short(x.Term), short(u), short(was), short(want))
		}
		kinds[kind]++
	}
	enough(t, kinds, 60)
}

// stepped tells what a term steps to.
func stepped(t *testing.T, x api.Term) api.Term {
	t.Helper()
	got, ok, e := beta.Step(x)
	if !ok || e != api.OK {
		t.Fatalf("Step(%s) = %t, %d", short(x), ok, e)
	}
	return got
}

// ofKind tells terms that are carried along lines of one kind.
func ofKind(seeds uint32, kind int) []scoped {
	return slices.DeleteFunc(comers(seeds, 10), func(x scoped) bool { return x.Kind != api.Transp || x.Kids[0].Kind != kind })
}

// A path's ends stay: at its own ends what a path became steps to the ends of the line's paths, at the line's end; and it is of the line's types there.
func TestEndsOfPaths(t *testing.T) {
	times := 0
	for _, x := range ofKind(4000, api.Path) {
		line := x.Kids[0]
		got, _ := becoming(t, x.Term)
		h := got.Kids[0]
		if !term.Same(h.Kids[0], taken(t, line.Kids[0], 1, always)) {
			t.Fatalf("%s becomes %s", short(x.Term), short(got))
		}
		for n, end := range []row{never, always} {
			// Where phi is, it would be told by another branch.
			there := taken(t, h, 0, end)
			if len(x.R) > 0 {
				there.Sys = there.Sys[1:]
			}
			want := neverless(t, taken(t, line.Kids[1+n], 0, always))
			if u := stepped(t, stepped(t, there)); !term.Same(u, want) {
				t.Fatalf("%s becomes %s, and steps to %s at an end, not %s", short(x.Term), short(got), short(u), short(want))
			}
			times++
		}
	}
	if times < 1000 {
		t.Errorf("too few to tell: %d", times)
	}
}

// Where nothing is carried, each part of what a term became steps to what it was there.
func TestNothingIsCarried(t *testing.T) {
	for _, x := range ofKind(3000, api.Sigma) {
		x.R = always
		got, _ := becoming(t, x.Term)
		a := x.Kids[1]
		if first, second := stepped(t, got.Kids[0]), stepped(t, got.Kids[1]); !term.Same(first, fst(a)) || !term.Same(second, snd(a)) {
			t.Fatalf("%s becomes %s", short(x.Term), short(got))
		}
	}
	for _, x := range ofKind(3000, api.Pi) {
		x.R = always
		got, _ := becoming(t, x.Term)
		applied := stepped(t, got.Kids[0])
		if f, e := lift.Both(x.Kids[1], 1, 0); e != api.OK || !term.Same(applied.Kids[0], f) || !term.Same(stepped(t, applied.Kids[1]), v(0)) {
			t.Fatalf("%s becomes %s", short(x.Term), short(got))
		}
	}
	for _, x := range ofKind(3000, api.Path) {
		x.R = always
		got, _ := becoming(t, x.Term)
		there := stepped(t, stepped(t, got.Kids[0]))
		a, e := lift.Both(neverless(t, x.Kids[1]), 0, 1)
		if e != api.OK || there.Kind != api.PApp || !slices.Equal(there.R, own) || !term.Same(there.Kids[0], a) {
			t.Fatalf("%s becomes %s", short(x.Term), short(got))
		}
	}
}

// What comes to a function, and what is a pair's first part, is carried likewise, the one backward, the other forward: along what the line's types are.
func TestFirstParts(t *testing.T) {
	for _, x := range ofKind(3000, api.Sigma) {
		got, _ := becoming(t, x.Term)
		if first := got.Kids[0]; !term.Same(first, along(x.R, x.Kids[0].Kids[0], fst(x.Kids[1]))) || !slices.Equal(got.Kids[1].R, x.R) {
			t.Fatalf("%s becomes %s", short(x.Term), short(got))
		}
	}
	for _, x := range ofKind(3000, api.Pi) {
		got, _ := becoming(t, x.Term)
		back := got.Kids[0].Kids[1].Kids[1]
		// Turned about again it is the line itself.
		turned := neverless(t, put(t, back.Kids[0], 0, row{neg(1)}))
		line, e := lift.Both(x.Kids[0].Kids[0], 1, 0)
		if e != api.OK || !slices.Equal(back.R, x.R) || !slices.Equal(got.Kids[0].R, x.R) || !term.Same(turned, neverless(t, line)) {
			t.Fatalf("%s becomes %s", short(x.Term), short(got))
		}
	}
}

// The rules that hold everywhere: what is handed in stays as it is, its spare room too, and what lies there is not read; what is handed out is of its own memory.
func TestMemory(t *testing.T) {
	calls := map[string]func(api.Term) (api.Term, bool, api.Errno){"Step": Step, "Swap": func(x api.Term) (api.Term, bool, api.Errno) {
		got, e := Swap(x)
		return got, true, e
	}}
	for _, s := range comers(1500, 10) {
		x := sample.Roomy(s.Term)
		before := sample.Whole(x)
		for name, do := range calls {
			want, wantOK, wantE := do(s.Term)
			for range 2 {
				got, ok, e := do(x)
				if e != wantE || ok != wantOK || !term.Same(got, want) {
					t.Fatalf("%s(%s) = %s, %t, %d, not %s, %t, %d", name, short(x), short(got), ok, e, short(want), wantOK, wantE)
				}
				if !reflect.DeepEqual(sample.Plain(sample.Whole(got)), sample.Plain(sample.Whole(want))) {
					t.Fatalf("%s(%s): what lies in the spare room was handed out", name, short(x))
				}
				if twice := sample.Spoil([]api.Term{got}); twice > 0 {
					t.Fatalf("%s(%s): lists of one answer share memory", name, short(x))
				}
				if !reflect.DeepEqual(before, sample.Whole(x)) {
					t.Fatalf("%s(%s): what was handed in was changed, or handed out", name, short(x))
				}
			}
		}
	}
}

// A part that stands in several places of one term is made for each.
func TestWhatIsShared(t *testing.T) {
	part := grown(of(api.MkGlue, loop(0)), row{neg(2)}, v(0))
	f := part.Sys[0].Face
	for _, x := range []api.Term{along(f, univ, pair(part, part)), along(f, pi(part, pair(part, part)), part), along(f, sigma(part, pair(part, part)), part), along(f, paths(part, part, part), part), along(never, paths(part, part, part), part), along(f, having(api.Glue, part, at(f, part, part)), part)} {
		want, ok, e := Step(term.Copy(x))
		got, _, _ := Step(x)
		if !ok || e != api.OK || !term.Same(got, want) || sample.Spoil([]api.Term{got}) > 0 {
			t.Errorf("Step(%s) = %s, %t, %d, not %s; or parts of it share memory", short(x), short(got), ok, e, short(want))
		}
		once := swapOf(t, x)
		if !term.Same(once, swapOf(t, term.Copy(x))) || sample.Spoil([]api.Term{once}) > 0 {
			t.Errorf("Swap(%s): parts of it share memory", short(x))
		}
	}
}

// A list without an element may be nil or empty.
func TestEmptyLists(t *testing.T) {
	for _, x := range comers(1500, 10) {
		want, _, e := Step(x.Term)
		becomes(t, sample.Plain(x.Term), want, e)
		swaps(t, sample.Plain(x.Term), swapOf(t, x.Term), api.OK)
	}
	for _, r := range []row{nil, {}} {
		becomes(t, along(r, circle, base), base, api.OK)
		becomes(t, along(r, sigma(univ, univ), base), pair(along(never, univ, fst(base)), along(never, univ, snd(base))), api.OK)
		becomes(t, along(r, pi(univ, univ), base), lam(along(never, univ, app(base, along(never, univ, v(0))))), api.OK)
		becomes(t, along(r, pi(univ, v(0)), base), lam(along(never, along(own, univ, v(0)), app(base, along(never, univ, v(0))))), api.OK)
		sides := system{at(row{neg(1)}, along(own, circle, loop(0))), at(own, along(own, circle, base))}
		becomes(t, along(r, paths(circle, loop(0), base), v(1)), plam(comp(circle, along(never, circle, point(own, v(1), loops(), base)), sides...)), api.OK)
	}
}
