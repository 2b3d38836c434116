package glue

import (
	"reflect"
	"slices"
	"testing"

	"hypercube/api"
	"hypercube/beta"
	"hypercube/dims"
	"hypercube/face"
	"hypercube/lift"
	"hypercube/plug"
	"hypercube/sample"
	"hypercube/term"
)

// P18.3, and what else follows.

// scoped is a term that may be in so many variables and dimensions.
type scoped struct {
	api.Term
	vars, dims int
}

// comers tells terms that mostly become something, with parts of about so many nodes.
func comers(seeds uint32, nodes int) []scoped {
	var out []scoped
	for seed := range seeds {
		c := comer{sample.Grow(seed)}
		vars, dims := c.Below(5), c.Below(10)
		out = append(out, scoped{c.grow(vars, dims, 1+c.Below(nodes)), vars, dims})
	}
	return out
}

// becoming tells what a term becomes, and by which of the two: nothing, if neither tells anything, or if that is too great.
func becoming(t *testing.T, x api.Term) (api.Term, string) {
	t.Helper()
	name := rowOf(x)
	if name == "" {
		return api.Term{}, name
	}
	got, ok, e := calls()[name](x)
	if e == api.ErrSize {
		return api.Term{}, ""
	}
	if !ok || e != api.OK {
		t.Fatalf("%s(%s) = %t, %d", name, short(x), ok, e)
	}
	return got, name
}

// agree holds that a term becomes what is wanted.
func agree(t *testing.T, x, want api.Term) {
	t.Helper()
	if got, _ := becoming(t, x); !term.Same(got, want) {
		t.Fatalf("%s becomes %s, not %s", short(x), short(got), short(want))
	}
}

// enough holds that both were there often.
func enough(t *testing.T, rows map[string]int, least int) {
	t.Helper()
	for name := range calls() {
		if rows[name] < least {
			t.Errorf("%s was there %d times only", name, rows[name])
		}
	}
}

// Both keep a term in its scope.
func TestScope(t *testing.T) {
	rows := map[string]int{}
	for _, x := range comers(3000, 6) {
		if e := term.Right(x.Term, x.vars, x.dims); e != api.OK {
			t.Fatalf("%s may not be: %d", short(x.Term), e)
		}
		got, row := becoming(t, x.Term)
		rows[row]++
		if row == "" {
			continue
		}
		if e := term.Right(got, x.vars, x.dims); e != api.OK || !sample.MayBe(got, x.vars, x.dims) {
			t.Fatalf("%s becomes %s, which may not be: %d", short(x.Term), short(got), e)
		}
	}
	enough(t, rows, 800)
}

// lasting tells the faces of a line's branches at its end, without such as are not there.
func lasting(t *testing.T, g api.Term) []row {
	t.Helper()
	var out []row
	for _, b := range g.Sys {
		put, e := face.Put(b.Face, 0, always)
		if e != api.OK {
			t.Fatal(e)
		}
		// The dimension is gone, so all others are one less.
		for k, c := range put {
			put[k] = both(c.Pos>>1, c.Neg>>1)
		}
		if len(put) > 0 {
			out = append(out, put)
		}
	}
	return out
}

// What they tell is of the kind MkGlue, with the faces of the glued type; what is glued is composed in the type that was glued. Where that has no branch, so has what they tell.
func TestFaces(t *testing.T) {
	rows, bare := map[string]int{}, map[string]int{}
	for _, x := range comers(3000, 6) {
		got, name := becoming(t, x.Term)
		rows[name]++
		if name == "" {
			continue
		}
		var want []row
		g := x.Kids[0]
		for _, b := range g.Sys {
			want = append(want, b.Face)
		}
		of := g.Kids[0]
		if name == "Carry" {
			want = lasting(t, g)
			of = taken(t, of, always)
		}
		var faces []row
		for _, b := range got.Sys {
			faces = append(faces, b.Face)
		}
		if got.Kind != api.MkGlue || got.Kids[0].Kind != api.HComp || !term.Same(got.Kids[0].Kids[0], of) || !slices.EqualFunc(faces, want, slices.Equal) {
			t.Fatalf("%s becomes %s", short(x.Term), short(got))
		}
		if len(g.Sys) == 0 {
			bare[name]++
		}
	}
	enough(t, rows, 800)
	enough(t, bare, 100)
}

// taken tells what a line is at a formula.
func taken(t *testing.T, line api.Term, r row) api.Term {
	t.Helper()
	got, e := dims.Take(line, 0, r)
	if e != api.OK {
		t.Fatalf("Take of %s is refused: %d", short(line), e)
	}
	return got
}

// put tells a term with a formula in a dimension's place.
func put(t *testing.T, x api.Term, i int, r row) api.Term {
	t.Helper()
	got, e := dims.Put(x, i, r)
	if e != api.OK {
		t.Fatalf("Put of %v in %s is refused: %d", r, short(x), e)
	}
	return got
}

// neverless tells a term without branches that never are.
func neverless(t *testing.T, x api.Term) api.Term { return put(t, x, 0, own) }

// A formula in a dimension's place: put there ahead, or behind.
func TestAndPut(t *testing.T) {
	rows, changed := map[string]int{}, 0
	for n, x := range comers(2000, 5) {
		got, row := becoming(t, x.Term)
		if row == "" || x.dims == 0 {
			continue
		}
		g := sample.Grow(uint32(n) + 77)
		i, r := g.Below(x.dims), g.Row(x.dims, false)
		want := put(t, got, i, r)
		agree(t, put(t, x.Term, i, r), want)
		rows[row]++
		if !term.Same(want, got) {
			changed++
		}
	}
	enough(t, rows, 300)
	if changed < 700 {
		t.Errorf("too few to tell: %d", changed)
	}
}

// What is lifted becomes what is lifted: nothing of the outside is bound.
func TestAndLift(t *testing.T) {
	rows := map[string]int{}
	for _, x := range comers(1200, 5) {
		got, row := becoming(t, x.Term)
		rows[row]++
		for _, by := range [][2]int{{1, 0}, {0, 1}, {3, 2}} {
			above, e := lift.Both(x.Term, by[0], by[1])
			want, e2 := api.Term{}, api.OK
			if row != "" {
				want, e2 = lift.Both(got, by[0], by[1])
			}
			if e != api.OK || e2 != api.OK {
				t.Fatalf("%s: %d, %d", short(x.Term), e, e2)
			}
			agree(t, above, want)
		}
	}
	enough(t, rows, 300)
}

// A term in a variable's place: put there ahead, or behind. (A branch that never is goes by the one road ahead of the other.)
func TestAndPlug(t *testing.T) {
	rows := map[string]int{}
	for n, x := range comers(2000, 5) {
		got, row := becoming(t, x.Term)
		if row == "" || x.vars == 0 {
			continue
		}
		g := sample.Grow(uint32(n) + 5)
		at, u := g.Below(x.vars), g.Term(x.vars, x.dims, g.Below(5))
		ahead, e := plug.At(x.Term, at, u)
		want, e2 := plug.At(got, at, u)
		if e != api.OK || e2 == api.ErrSize {
			continue
		}
		was, _ := becoming(t, ahead)
		if e2 != api.OK || !term.Same(neverless(t, was), neverless(t, want)) {
			t.Fatalf("%s with %s becomes %s, not %s, %d", short(x.Term), short(u), short(was), short(want), e2)
		}
		rows[row]++
	}
	enough(t, rows, 300)
}

// stepped tells what a term steps to.
func stepped(t *testing.T, x api.Term) api.Term {
	t.Helper()
	got, ok, e := beta.Step(x)
	if !ok || e != api.OK {
		t.Fatalf("Step(%s) = %t, %d", short(x), ok, e)
	}
	return got
}

// steps holds what a term steps to.
func steps(t *testing.T, x, want api.Term) {
	t.Helper()
	if got := stepped(t, x); !term.Same(got, want) {
		t.Fatalf("%s steps to %s, not %s", short(x), short(got), short(want))
	}
}

// partial tells a term in which no branch of the composition, or of the glued type, is total all along, or goes.
func partial(t *testing.T, x api.Term) api.Term {
	t.Helper()
	x = neverless(t, x)
	total := func(b api.Branch) bool { return slices.Equal(b.Face, always) }
	x.Sys = slices.DeleteFunc(x.Sys, total)
	x.Kids[0].Sys = slices.DeleteFunc(x.Kids[0].Sys, total)
	return x
}

// Where a branch of the composition is total, it steps to its end; so does what is glued, to its end unglued.
func TestTotalWalls(t *testing.T) {
	times := 0
	for n, x := range comers(6000, 5) {
		if rowOf(x.Term) != "Merge" {
			continue
		}
		from := partial(t, x.Term)
		if len(from.Sys) == 0 {
			continue
		}
		from.Sys[n%len(from.Sys)].Face = always
		got, row := becoming(t, from)
		if row == "" {
			continue
		}
		g := from.Kids[0]
		steps(t, got.Kids[0], unglueOf(stepped(t, from), ungluesOf(g)...))
		for k, b := range got.Sys {
			steps(t, b.Kids[0], stepped(t, comp(g.Sys[k].Kids[0], from.Kids[1], from.Sys...)))
		}
		times++
	}
	if times < 300 {
		t.Errorf("too few to tell: %d", times)
	}
}

// Where a branch of the glued type is total, that steps to the branch's type; what is composed in it, or carried along it, becomes the same of that type.
func TestTotalPieces(t *testing.T) {
	rows := map[string]int{}
	for n, x := range comers(6000, 4) {
		if rowOf(x.Term) == "" {
			continue
		}
		from := partial(t, x.Term)
		pieces := from.Kids[0].Sys
		if len(pieces) == 0 {
			continue
		}
		if from.Kind == api.Transp {
			// Others are to be there all along it, or not at its end.
			from.R = never
			for k := range pieces {
				pieces[k].Face = lastingOrFirst(pieces[k].Face)
			}
		}
		pieces[n%len(pieces)].Face = always
		got, row := becoming(t, from)
		if row == "" {
			continue
		}
		from.Kids[0] = stepped(t, from.Kids[0])
		there := stepped(t, got)
		if row == "Carry" {
			// It is the first part of the path's end.
			path := stepped(t, there.Kids[0])
			there = stepped(t, fst(stepped(t, path)))
		}
		if !term.Same(there, from) {
			t.Fatalf("%s becomes %s, and steps to %s", short(x.Term), short(got), short(there))
		}
		rows[row]++
	}
	enough(t, rows, 200)
}

// lastingOrFirst tells a face, without what of it hangs on the dimension 0; if nothing is left, where that is 0.
func lastingOrFirst(f row) row {
	rest := slices.DeleteFunc(slices.Clone(f), func(c api.Clause) bool { return (c.Pos|c.Neg)&1 == 1 })
	if len(rest) == 0 {
		return row{neg(1)}
	}
	return rest
}

// Where nothing is carried, the glued type's points at the end are what was there.
func TestNothingIsCarried(t *testing.T) {
	times := 0
	for _, x := range comers(6000, 4) {
		if rowOf(x.Term) != "Carry" {
			continue
		}
		from := neverless(t, x.Term)
		from.R = always
		got, row := becoming(t, from)
		if row == "" {
			continue
		}
		steps(t, got.Kids[0], got.Kids[0].Kids[1])
		for _, b := range got.Sys {
			path := stepped(t, b.Kids[0].Kids[0])
			steps(t, fst(stepped(t, path)), from.Kids[1])
			times++
		}
	}
	if times < 500 {
		t.Errorf("too few to tell: %d", times)
	}
}

// The rules that hold everywhere: what is handed in stays as it is, its spare room too, and what lies there is not read; what is handed out is of its own memory.
func TestMemory(t *testing.T) {
	for _, s := range comers(600, 5) {
		x := sample.Roomy(s.Term)
		before := sample.Whole(x)
		for name, do := range calls() {
			want, wantOK, wantE := do(s.Term)
			for range 2 {
				got, ok, e := do(x)
				if e != wantE || ok != wantOK || !term.Same(got, want) {
					t.Fatalf("%s(%s) = %s, %t, %d, not %s, %t, %d", name, short(x), short(got), ok, e, short(want), wantOK, wantE)
				}
				if !reflect.DeepEqual(sample.Plain(sample.Whole(got)), sample.Plain(sample.Whole(want))) {
					t.Fatalf("%s(%s): what lies in the spare room was handed out", name, short(x))
				}
				if twice := sample.Spoil([]api.Term{got}); twice > 0 {
					t.Fatalf("%s(%s): lists of one answer share memory", name, short(x))
				}
				if !reflect.DeepEqual(before, sample.Whole(x)) {
					t.Fatalf("%s(%s): what was handed in was changed, or handed out", name, short(x))
				}
			}
		}
	}
}

// A part that stands in several places of one term is made for each.
func TestWhatIsShared(t *testing.T) {
	part := grown(of(api.MkGlue, loop(0)), row{neg(2)}, v(1))
	f := part.Sys[0].Face
	for _, x := range []api.Term{
		comp(glued(part), part), comp(glued(part, at(f, part, part)), part), comp(glued(part, at(f, part, part), at(f, part, part)), part, at(f, part), at(f, part)),
		along(f, glued(part), part), along(never, glued(part, at(f, part, part)), part), along(f, glued(part, at(f, part, part)), part),
	} {
		x.Sys = append(x.Sys, x.Sys...)
		name := rowOf(x)
		want, ok, e := calls()[name](term.Copy(x))
		got, _, _ := calls()[name](x)
		if !ok || e != api.OK || !term.Same(got, want) || sample.Spoil([]api.Term{got}) > 0 {
			t.Errorf("%s(%s) = %s, %t, %d, not %s; or parts of it share memory", name, short(x), short(got), ok, e, short(want))
		}
	}
}

// A list without an element may be nil or empty.
func TestEmptyLists(t *testing.T) {
	for _, x := range comers(800, 4) {
		for name, do := range calls() {
			want, _, e := do(x.Term)
			becomes(t, name, sample.Plain(x.Term), want, e)
		}
	}
	for _, r := range []row{nil, {}} {
		for _, l := range []system{nil, {}} {
			bare := glued(circle)
			bare.Sys = l
			h := comp(bare, base)
			h.Sys = l
			becomes(t, "Merge", h, madeGlued(comp(circle, unglueOf(base))), api.OK)
			h.Sys = append(h.Sys, at(r, univ))
			becomes(t, "Merge", h, madeGlued(comp(circle, unglueOf(base), at(never, unglueOf(univ)))), api.OK)
			becomes(t, "Carry", along(r, bare, base), madeGlued(comp(circle, carriedTo(circle, circle, unglueOf(base)))), api.OK)
			bare.Sys = append(bare.Sys, at(r, univ, univ))
			becomes(t, "Carry", along(r, bare, base), madeGlued(comp(circle, carriedTo(circle, circle, unglueOf(base)))), api.OK)
		}
	}
}
