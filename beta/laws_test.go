package beta

import (
	"reflect"
	"slices"
	"testing"

	"hypercube/api"
	"hypercube/dims"
	"hypercube/face"
	"hypercube/lift"
	"hypercube/sample"
	"hypercube/term"
)

// P16.2.

// scoped is a term that may be in so many variables and dimensions.
type scoped struct {
	api.Term
	vars, dims int
}

// steppers tells terms that mostly step, of all rows.
func steppers(seeds uint32) []scoped {
	var out []scoped
	table := rules()
	for seed := range seeds {
		s := stepper{sample.Grow(seed), table}
		vars, dims := s.Below(5), s.Below(10)
		out = append(out, scoped{s.grow(vars, dims, 1+s.Below(30)), vars, dims})
	}
	return out
}

// A step keeps a term in its scope.
func TestScope(t *testing.T) {
	stepped := 0
	for _, x := range steppers(10000) {
		if e := term.Right(x.Term, x.vars, x.dims); e != api.OK {
			t.Fatalf("%s may not be: %d", short(x.Term), e)
		}
		got, ok, e := Step(x.Term)
		if e != api.OK {
			t.Fatalf("%s is refused: %d", short(x.Term), e)
		}
		if !ok {
			continue
		}
		stepped++
		if e := term.Right(got, x.vars, x.dims); e != api.OK || !sample.MayBe(got, x.vars, x.dims) {
			t.Fatalf("%s becomes %s, which may not be: %d", short(x.Term), short(got), e)
		}
	}
	if stepped < 5000 {
		t.Errorf("too few to tell: %d", stepped)
	}
}

// put tells a term with a formula in a dimension's place.
func put(t *testing.T, x api.Term, i int, r row) api.Term {
	t.Helper()
	got, e := dims.Put(x, i, r)
	if e != api.OK {
		t.Fatalf("Put of %v in %s is refused: %d", r, short(x), e)
	}
	return got
}

// sameRow tells whether a term steps by the same row, and the same branch, behind a formula's being put in.
func sameRow(table []rule, x, behind api.Term, i int, r row) bool {
	n := rowOf(table, x)
	if n < 0 || n != rowOf(table, behind) {
		return false
	}
	for _, b := range x.Sys[:max(0, total(x))] {
		if f, e := face.Put(b.Face, i, r); e != api.OK || slices.Equal(f, always) {
			return false
		}
	}
	return true
}

// A step, and a formula in a dimension's place: the one ahead of the other, or behind it.
func TestStepAndPut(t *testing.T) {
	table := rules()
	rows, changed := map[int]int{}, 0
	for n, x := range steppers(20000) {
		if x.dims == 0 {
			continue
		}
		g := sample.Grow(uint32(n) + 77)
		i, r := g.Below(x.dims), g.Row(x.dims, false)
		if g.Below(4) == 0 {
			r = []row{zero, one}[g.Below(2)]
		}
		behind := put(t, x.Term, i, r)
		if !sameRow(table, x.Term, behind, i, r) {
			continue
		}
		got, ok, e := Step(x.Term)
		if !ok || e != api.OK {
			t.Fatalf("Step(%s) = %t, %d", short(x.Term), ok, e)
		}
		want := put(t, got, i, r)
		steps(t, behind, want, api.OK)
		rows[rowOf(table, x.Term)]++
		if !term.Same(want, got) {
			changed++
		}
		if t.Failed() {
			t.Fatalf("%s with %v at %d", short(x.Term), r, i)
		}
	}
	for n, r := range table {
		if rows[n] < 50 {
			t.Errorf("the row %d, of the kind %d, was there %d times only", n, r.kind, rows[n])
		}
	}
	if changed < 3000 {
		t.Errorf("too few to tell: %d", changed)
	}
}

// Where a formula makes a path's formula 0 or 1, or a branch total, the term steps by that row, or that branch.
func TestPutMakesARow(t *testing.T) {
	two := grown(grown(of(api.HComp, univ, univ), i, loop(0)), row{neg(2)}, plam(loop(1)))
	for _, x := range []struct {
		from api.Term
		i    int
		r    row
		to   api.Term
	}{
		{loop(0), 0, zero, base}, {loop(0), 0, row{pos(2)}, api.Term{}}, {loops(neg(1)), 0, zero, base}, {merid(univ, notI), 0, zero, south}, {merid(univ, notI), 0, one, north}, {papp(plam(loop(0)), base, univ, i), 0, zero, base}, {papp(plam(loop(0)), base, univ, i), 0, one, univ}, {papp(plam(loop(0)), base, univ, i), 0, row{neg(2)}, loops(neg(2))}, {papp(plam(loop(0)), base, univ, row{both(1, 1)}), 0, one, base},
		{two, 0, one, loops(one...)}, {two, 0, zero, api.Term{}}, {two, 1, zero, plam(loops(one...))}, {two, 1, one, api.Term{}}, {two, 0, row{neg(2)}, api.Term{}}, {carry(univ, base, i), 0, one, base}, {carry(univ, base, i), 0, row{both(2, 2)}, api.Term{}}, {carry(univ, base, row{neg(1), pos(1)}), 0, one, base},
		{grown(grown(of(api.Glue, univ), i, loop(0), univ), always, base, univ), 0, one, loops(one...)}, {grown(of(api.Unglue, of(api.MkGlue, loop(0))), i, v(0)), 0, one, app(fst(v(0)), of(api.MkGlue, loops(one...)))}, {grown(of(api.Unglue, of(api.MkGlue, loop(0))), i, v(0)), 0, zero, loops()},
	} {
		steps(t, put(t, x.from, x.i, x.r), x.to, api.OK)
	}
}

// What is lifted steps to what is lifted: nothing of the outside is bound.
func TestStepAndLift(t *testing.T) {
	for _, x := range steppers(4000) {
		got, ok, e := Step(x.Term)
		for _, by := range [][2]int{{1, 0}, {0, 1}, {3, 2}} {
			up, e1 := lift.Both(x.Term, by[0], by[1])
			want, e2 := api.Term{}, api.OK
			if ok {
				want, e2 = lift.Both(got, by[0], by[1])
			}
			if e != api.OK || e1 != api.OK || e2 != api.OK {
				t.Fatalf("%s: %d, %d, %d", short(x.Term), e, e1, e2)
			}
			steps(t, up, want, api.OK)
		}
	}
}

// What a step does not tell of does not count: where parts of the same kinds stand there, the same row tells.
func TestPartsThatGo(t *testing.T) {
	for n, x := range steppers(3000) {
		g := sample.Grow(uint32(n) + 5)
		other := func(api.Term) api.Term { return g.Term(2, 3, 20) }
		changed := x.Term
		switch changed.Kids = slices.Clone(x.Kids); x.Kind {
		case api.CircleEl, api.SuspEl, api.HComp, api.Transp:
			changed.Kids[0] = other(changed.Kids[0])
		case api.The:
			changed.Kids[1] = other(changed.Kids[1])
		case api.Glue, api.MkGlue:
			changed.Kids[0] = of(api.The, other(changed.Kids[0]), univ)
		default:
			continue
		}
		want, ok, e := Step(x.Term)
		if !ok {
			want = api.Term{}
		}
		steps(t, changed, want, e)
	}
}

// The rules that hold everywhere: what is handed in stays as it is, its spare room too, and what lies there is not read; what is handed out is of its own memory.
func TestMemory(t *testing.T) {
	for _, s := range steppers(2500) {
		x := sample.Roomy(s.Term)
		before := sample.Whole(x)
		want, wantOK, wantE := Step(s.Term)
		for range 2 {
			got, ok, e := Step(x)
			if e != wantE || ok != wantOK || !term.Same(got, want) {
				t.Fatalf("Step(%s) = %s, %t, %d, not %s, %t, %d", short(x), short(got), ok, e, short(want), wantOK, wantE)
			}
			if !reflect.DeepEqual(sample.Plain(sample.Whole(got)), sample.Plain(sample.Whole(want))) {
				t.Fatalf("Step(%s): what lies in the spare room was handed out", short(x))
			}
			if twice := sample.Spoil([]api.Term{got}); twice > 0 {
				t.Fatalf("Step(%s): lists of one answer share memory", short(x))
			}
			if !reflect.DeepEqual(before, sample.Whole(x)) {
				t.Fatalf("Step(%s): what was handed in was changed, or handed out", short(x))
			}
		}
	}
}

// A part that stands in two places of one term is made for each.
func TestWhatIsShared(t *testing.T) {
	part := grown(grown(of(api.HComp, loop(0), lam(loop(1))), row{neg(1)}, loop(1)), always, loop(2))
	for _, x := range []api.Term{
		app(lam(part), part), app(lam(pair(v(0), v(0))), part), fst(pair(part, part)), papp(plam(part), part, part, i), papp(part, part, part, one), of(api.CircleEl, part, part, part, loop(0)), of(api.SuspEl, part, part, part, part, merid(part, i)), of(api.The, part, part), carry(part, part, always),
		part, grown(of(api.Glue, part), part.Sys[1].Face, part, part), grown(of(api.MkGlue, part), always, part), grown(of(api.Unglue, part), part.Sys[1].Face, part), of(api.Unglue, of(api.MkGlue, part)),
	} {
		want, ok, e := Step(term.Copy(x))
		got, _, _ := Step(x)
		if !ok || e != api.OK || !term.Same(got, want) || sample.Spoil([]api.Term{got}) > 0 {
			t.Errorf("Step(%s) = %s, %t, %d, not %s; or parts of it share memory", short(x), short(got), ok, e, short(want))
		}
	}
}

// A list without an element may be nil or empty.
func TestEmptyLists(t *testing.T) {
	for _, x := range steppers(2000) {
		want, _, e := Step(x.Term)
		steps(t, sample.Plain(x.Term), want, e)
	}
	for _, r := range []row{nil, {}} {
		for _, l := range [][]api.Branch{nil, {}} {
			for _, x := range []step{{loops(r...), base}, {merid(univ, r), north}, {papp(univ, base, north, r), base}, {of(api.Unglue, of(api.MkGlue, base)), base}, {grown(of(api.HComp, univ, base), r, base), api.Term{}}, {carry(univ, base, r), api.Term{}}, {of(api.Glue, univ), api.Term{}}} {
				x.from.Sys = append(l, x.from.Sys...)
				steps(t, x.from, x.to, api.OK)
			}
		}
	}
}
