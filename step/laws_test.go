package step

import (
	"reflect"
	"slices"
	"testing"

	"hypercube/api"
	"hypercube/dims"
	"hypercube/lift"
	"hypercube/sample"
	"hypercube/term"
)

// P21.3, and what else follows.

// steppers tells terms of all kinds that step, mostly.
func steppers(seeds uint32) []sample.Scoped {
	var out []sample.Scoped
	for seed := range seeds {
		g := sample.Grow(seed)
		vars, dims := g.Below(5), g.Below(12)
		out = append(out, sample.Scoped{T: g.Stepping(vars, dims, 1+g.Below(12)), Vars: vars, Dims: dims})
	}
	return out
}

// A step keeps a term in its scope.
func TestScope(t *testing.T) {
	stepped := map[int]int{}
	for seed, x := range steppers(8000) {
		defs := grownDefs(sample.Grow(uint32(seed)))
		got, ok, e := Step(defs, x.T)
		if e != api.OK {
			t.Fatalf("Step(%s): %d", short(x.T), e)
		}
		if !ok {
			continue
		}
		stepped[x.T.Kind]++
		if e := term.Right(got, x.Vars, x.Dims); e != api.OK || !sample.MayBe(got, x.Vars, x.Dims) {
			t.Fatalf("%s becomes %s, which may not be: %d", short(x.T), short(got), e)
		}
	}
	for kind := api.Var; kind <= api.The; kind++ {
		if stepped[kind] < 25 && steppingKind(kind) {
			t.Errorf("of the kind %d only %d stepped", kind, stepped[kind])
		}
	}
}

// steppingKind tells whether a node of a kind may step.
func steppingKind(kind int) bool {
	_, main := mains()[kind]
	return main || slices.Contains([]int{api.Const, api.Loop, api.Merid, api.The, api.Glue, api.MkGlue}, kind)
}

// A node whose kind has no main Kid, and is none of the six others, does not step, whatever its parts are.
func TestKindsThatDoNotStep(t *testing.T) {
	tried := map[int]int{}
	for seed, x := range sample.GrownTerms(1500) {
		g := sample.Grow(uint32(seed))
		defs := grownDefs(g)
		part := g.Stepping(2, 3, 8)
		for _, y := range append(sample.InEachPlace(2, func(byte) api.Term { return part }, own, off), x.T) {
			if steppingKind(y.Kind) {
				continue
			}
			tried[y.Kind]++
			steps(t, defs, y, api.Term{}, api.OK)
		}
	}
	if len(tried) != 13 {
		t.Errorf("%d kinds do not step", len(tried))
	}
}

// What is lifted steps to what is lifted: a body is of no outside, and nothing else of the outside is bound.
func TestAndLift(t *testing.T) {
	for seed, x := range steppers(3000) {
		defs := grownDefs(sample.Grow(uint32(seed)))
		got, ok, e := Step(defs, x.T)
		for _, by := range [][2]int{{1, 0}, {0, 1}, {3, 2}} {
			up, e1 := lift.Both(x.T, by[0], by[1])
			want, e2 := api.Term{}, api.OK
			if ok {
				want, e2 = lift.Both(got, by[0], by[1])
			}
			if e != api.OK || e1 != api.OK || e2 != api.OK {
				t.Fatalf("%s: %d, %d, %d", short(x.T), e, e1, e2)
			}
			steps(t, defs, up, want, api.OK)
		}
	}
}

// A formula in a dimension's place makes a term step that did not, or by an earlier step; where its branches and formulas are no ends, it steps as it did.
func TestAndPut(t *testing.T) {
	same, other := 0, 0
	for n, x := range steppers(6000) {
		if x.Dims == 0 {
			continue
		}
		g := sample.Grow(uint32(n) + 77)
		i, r := g.Below(x.Dims), g.Row(x.Dims, false)
		_, was, _ := model(nil, x.T)
		behind, e := dims.Put(x.T, i, r)
		_, is, e2 := model(nil, behind)
		if e != api.OK || e2 != api.OK {
			t.Fatalf("%s with %v: %d, %d", short(x.T), r, e, e2)
		}
		if was != is && is != "beta" {
			t.Fatalf("%s with %v at %d: %s, then %s", short(x.T), r, i, was, is)
		}
		if is == "beta" {
			other++
			continue
		}
		got, ok, e := Step(nil, x.T)
		want := api.Term{}
		if ok {
			want, _ = dims.Put(got, i, r)
		}
		steps(t, nil, behind, want, e)
		same++
	}
	if same < 1000 || other < 1000 {
		t.Errorf("too few to tell: %d, %d", same, other)
	}
}

// roomy tells definitions, each list of which has others behind it.
func roomy(defs []Def) []Def {
	var out []Def
	for _, d := range defs {
		out = append(out, Def{d.Name, sample.Roomy(d.Body)})
	}
	return append(out, Def{"a", base}, Def{"Z", base}, Def{"_", base}, Def{"x0", base}, Def{"fst", base}, Def{"a_B9", base})[:len(out)]
}

// wholeDefs tells a copy of definitions with all the spare room of their lists.
func wholeDefs(defs []Def) []Def {
	out := slices.Clone(defs[:cap(defs)])
	for n := range out {
		out[n].Body = sample.Whole(out[n].Body)
	}
	return out
}

// The rules that hold everywhere: what is handed in stays as it is, its spare room too, and what lies there is not read; what is handed out is of its own memory.
func TestMemory(t *testing.T) {
	kinds := map[int]int{}
	for seed, s := range steppers(5000) {
		plainDefs := grownDefs(sample.Grow(uint32(seed)))
		x, defs := sample.Roomy(s.T), roomy(plainDefs)
		before, defsBefore := sample.Whole(x), wholeDefs(defs)
		want, wantOK, wantE := Step(plainDefs, s.T)
		for range 2 {
			got, ok, e := Step(defs, x)
			if e != wantE || ok != wantOK || !term.Same(got, want) {
				t.Fatalf("Step(%s) = %s, %t, %d, not %s, %t, %d", short(x), short(got), ok, e, short(want), wantOK, wantE)
			}
			if !reflect.DeepEqual(sample.Plain(sample.Whole(got)), sample.Plain(sample.Whole(want))) {
				t.Fatalf("Step(%s): what lies in the spare room was handed out", short(x))
			}
			if twice := sample.Spoil([]api.Term{got}); twice > 0 {
				t.Fatalf("Step(%s): lists of one answer share memory", short(x))
			}
			if !reflect.DeepEqual(before, sample.Whole(x)) || !reflect.DeepEqual(defsBefore, wholeDefs(defs)) {
				t.Fatalf("Step(%s): what was handed in was changed, or handed out", short(x))
			}
		}
		if wantOK {
			kinds[s.T.Kind]++
		}
	}
	if kinds[api.Const] < 20 {
		t.Errorf("too few names to tell: %d", kinds[api.Const])
	}
}

// A body that has a part in two places is told with one for each.
func TestWhatIsShared(t *testing.T) {
	part := grown(grown(comp(univ, lam(v(0))), always, of(api.Loop)), never, plam(loop(0)))
	body := grown(grown(of(api.Glue, part), part.Sys[0].Face, part, part), part.Sys[0].Face, part, part)
	defs := []Def{{"a", body}, {"b", body}}
	for range 2 {
		for _, s := range []string{"a", "b"} {
			got, ok, e := Step(defs, name(s))
			if !ok || e != api.OK || !term.Same(got, body) || sample.Spoil([]api.Term{got}) > 0 {
				t.Errorf("Step(%s) = %s, %t, %d; or parts of it share memory", s, short(got), ok, e)
			}
		}
	}
}

// A list without an element may be nil or empty.
func TestEmptyLists(t *testing.T) {
	for seed, x := range steppers(2000) {
		defs := grownDefs(sample.Grow(uint32(seed)))
		want, ok, e := Step(defs, x.T)
		if !ok {
			want = api.Term{}
		}
		for n := range defs {
			defs[n].Body = sample.Plain(defs[n].Body)
		}
		steps(t, append([]Def{}, defs...), sample.Plain(x.T), want, e)
	}
}

// What a call answers hangs on nothing that was asked before.
func TestNothingIsKept(t *testing.T) {
	defs := []Def{{"a", univ}}
	steps(t, defs, name("a"), univ, api.OK)
	defs[0] = Def{"b", base}
	steps(t, defs, name("a"), api.Term{}, api.OK)
	steps(t, defs, name("b"), base, api.OK)
	steps(t, nil, name("b"), api.Term{}, api.OK)
}
