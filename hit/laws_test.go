package hit

import (
	"reflect"
	"slices"
	"testing"

	"hypercube/api"
	"hypercube/beta"
	"hypercube/dims"
	"hypercube/lift"
	"hypercube/plug"
	"hypercube/sample"
	"hypercube/term"
)

// P17.3, and what else follows.

// scoped is a term that may be in so many variables and dimensions.
type scoped struct {
	api.Term
	vars, dims int
}

// comers tells terms that mostly become something, by all rows.
func comers(seeds uint32) []scoped {
	var out []scoped
	for seed := range seeds {
		c := comer{sample.Grow(seed)}
		vars, dims := c.Below(5), c.Below(10)
		out = append(out, scoped{c.grow(vars, dims, 1+c.Below(30)), vars, dims})
	}
	return out
}

// told tells what a term becomes by one of the two, which do not refuse it; and by which row.
func told(t *testing.T, x api.Term) (api.Term, int) {
	t.Helper()
	row, name := rowOf(x)
	if row == noRow {
		return api.Term{}, row
	}
	got, ok, e := calls()[name](x)
	if !ok || e != api.OK {
		t.Fatalf("%s(%s) = %t, %d", name, short(x), ok, e)
	}
	return got, row
}

// agree holds that a term becomes what is wanted.
func agree(t *testing.T, x, want api.Term) {
	t.Helper()
	if got, _ := told(t, x); !term.Same(got, want) {
		t.Fatalf("%s becomes %s, not %s", short(x), short(got), short(want))
	}
}

// enough holds that each row was there often.
func enough(t *testing.T, rows map[int]int, least int) {
	t.Helper()
	for row := circleRow; row < allRows; row++ {
		if rows[row] < least {
			t.Errorf("the row %d was there %d times only", row, rows[row])
		}
	}
}

// Both keep a term in its scope.
func TestScope(t *testing.T) {
	rows := map[int]int{}
	for _, x := range comers(8000) {
		if e := term.Right(x.Term, x.vars, x.dims); e != api.OK {
			t.Fatalf("%s may not be: %d", short(x.Term), e)
		}
		got, row := told(t, x.Term)
		rows[row]++
		if row == noRow {
			continue
		}
		if e := term.Right(got, x.vars, x.dims); e != api.OK || !sample.MayBe(got, x.vars, x.dims) {
			t.Fatalf("%s becomes %s, which may not be: %d", short(x.Term), short(got), e)
		}
	}
	enough(t, rows, 100)
}

// A composition becomes one of as many branches, with the same faces; and in each of them stands what is made of that branch alone.
func TestBranches(t *testing.T) {
	many := 0
	for _, x := range comers(6000) {
		got, row := told(t, x.Term)
		if row != circleRow && row != suspRow && row != compRow {
			continue
		}
		h := x.Kids[len(x.Kids)-1]
		if got.Kind != api.HComp || len(got.Sys) != len(h.Sys) {
			t.Fatalf("%s becomes %s", short(x.Term), short(got))
		}
		for n, b := range got.Sys {
			u := b.Kids[0]
			if !slices.Equal(b.Face, h.Sys[n].Face) || u.Kind != api.Transp {
				t.Fatalf("%s becomes %s", short(x.Term), short(got))
			}
			if row != compRow {
				u = u.Kids[1]
			}
			if !term.Same(u.Kids[len(u.Kids)-1], h.Sys[n].Kids[0]) {
				t.Fatalf("%s becomes %s", short(x.Term), short(got))
			}
			many++
		}
	}
	if many < 3000 {
		t.Errorf("too few to tell: %d", many)
	}
}

// put tells a term with a formula in a dimension's place.
func put(t *testing.T, x api.Term, i int, r row) api.Term {
	t.Helper()
	got, e := dims.Put(x, i, r)
	if e != api.OK {
		t.Fatalf("Put of %v in %s is refused: %d", r, short(x), e)
	}
	return got
}

// end tells what a line is at 1.
func end(t *testing.T, line api.Term) api.Term {
	t.Helper()
	got, e := dims.Take(line, 0, always)
	if e != api.OK {
		t.Fatalf("Take of %s is refused: %d", short(line), e)
	}
	return got
}

// neverless tells a term without branches that never are.
func neverless(t *testing.T, x api.Term) api.Term { return put(t, x, 0, row{pos(1)}) }

// A formula in a dimension's place: put there ahead, or behind.
func TestAndPut(t *testing.T) {
	rows, changed := map[int]int{}, 0
	for n, x := range comers(8000) {
		got, row := told(t, x.Term)
		if row == noRow || x.dims == 0 {
			continue
		}
		g := sample.Grow(uint32(n) + 77)
		i, r := g.Below(x.dims), g.Row(x.dims, false)
		want := put(t, got, i, r)
		agree(t, put(t, x.Term, i, r), want)
		rows[row]++
		if !term.Same(want, got) {
			changed++
		}
	}
	enough(t, rows, 100)
	if changed < 2000 {
		t.Errorf("too few to tell: %d", changed)
	}
}

// What is lifted becomes what is lifted: nothing of the outside is bound.
func TestAndLift(t *testing.T) {
	for _, x := range comers(4000) {
		got, row := told(t, x.Term)
		for _, by := range [][2]int{{1, 0}, {0, 1}, {3, 2}} {
			above, e := lift.Both(x.Term, by[0], by[1])
			want, e2 := api.Term{}, api.OK
			if row != noRow {
				want, e2 = lift.Both(got, by[0], by[1])
			}
			if e != api.OK || e2 != api.OK {
				t.Fatalf("%s: %d, %d", short(x.Term), e, e2)
			}
			agree(t, above, want)
		}
	}
}

// A term in a variable's place: put there ahead, or behind. (A branch that never is goes by the one road ahead of the other.)
func TestAndPlug(t *testing.T) {
	rows := map[int]int{}
	for n, x := range comers(4000) {
		got, row := told(t, x.Term)
		if row == noRow || x.vars == 0 {
			continue
		}
		g := sample.Grow(uint32(n) + 5)
		at, u := g.Below(x.vars), g.Term(x.vars, x.dims, g.Below(15))
		// What comes there would make a composition of what was none.
		if k := x.Kids[len(x.Kids)-1]; k.Kind == api.Var || x.Kids[0].Kind == api.Var {
			continue
		}
		ahead, e := plug.At(x.Term, at, u)
		want, e2 := plug.At(got, at, u)
		if e != api.OK || e2 != api.OK {
			t.Fatalf("%s: %d, %d", short(x.Term), e, e2)
		}
		was, _ := told(t, ahead)
		if !term.Same(neverless(t, was), neverless(t, want)) {
			t.Fatalf("%s with %s becomes %s, not %s", short(x.Term), short(u), short(was), short(want))
		}
		rows[row]++
	}
	enough(t, rows, 30)
}

// stepped tells what a term steps to.
func stepped(t *testing.T, x api.Term) api.Term {
	t.Helper()
	got, ok, e := beta.Step(x)
	if !ok || e != api.OK {
		t.Fatalf("Step(%s) = %t, %d", short(x), ok, e)
	}
	return got
}

// Where a branch is total, the composition steps to its end; so does what it becomes, with what stands around it.
func TestTotal(t *testing.T) {
	rows := map[int]int{}
	for n, x := range comers(6000) {
		row, _ := rowOf(x.Term)
		if row != circleRow && row != suspRow && row != compRow {
			continue
		}
		last := len(x.Kids) - 1
		from := neverless(t, x.Term)
		h := &from.Kids[last]
		if len(h.Sys) == 0 {
			continue
		}
		h.Sys[n%len(h.Sys)].Face = always
		got, _ := told(t, from)
		around := of(from.Kind, from.Kids...)
		around.R = from.R
		around.Kids[last] = stepped(t, *h)
		there := stepped(t, got)
		if row != compRow {
			there = stepped(t, there)
		}
		if !term.Same(there, around) {
			t.Fatalf("%s becomes %s, and steps to %s, not %s", short(from), short(got), short(there), short(around))
		}
		rows[row]++
	}
	for _, row := range []int{circleRow, suspRow, compRow} {
		if rows[row] < 100 {
			t.Errorf("the row %d was there %d times only", row, rows[row])
		}
	}
}

// What is composed is of what is made at the composition itself; what is carried comes to be of the line's end.
func TestTypes(t *testing.T) {
	rows := map[int]int{}
	for _, x := range comers(6000) {
		got, row := told(t, x.Term)
		switch row {
		case circleRow, suspRow:
			of, e := plug.At(x.Kids[0], 0, x.Kids[len(x.Kids)-1])
			if e != api.OK || !term.Same(got.Kids[0], neverless(t, of)) {
				t.Fatalf("%s becomes %s, not of %s", short(x.Term), short(got), short(of))
			}
			line := got.Kids[1].Kids[0]
			if !term.Same(got.Kids[0], end(t, line)) {
				t.Fatalf("%s becomes %s, not of %s", short(x.Term), short(got), short(line))
			}
		case compRow:
			if !term.Same(got.Kids[0], end(t, x.Kids[0])) {
				t.Fatalf("%s becomes %s", short(x.Term), short(got))
			}
		}
		rows[row]++
	}
	enough(t, rows, 100)
}

// The rules that hold everywhere: what is handed in stays as it is, its spare room too, and what lies there is not read; what is handed out is of its own memory.
func TestMemory(t *testing.T) {
	for _, s := range comers(2500) {
		x := sample.Roomy(s.Term)
		before := sample.Whole(x)
		for name, do := range calls() {
			want, wantOK, wantE := do(s.Term)
			for range 2 {
				got, ok, e := do(x)
				if e != wantE || ok != wantOK || !term.Same(got, want) {
					t.Fatalf("%s(%s) = %s, %t, %d, not %s, %t, %d", name, short(x), short(got), ok, e, short(want), wantOK, wantE)
				}
				if !reflect.DeepEqual(sample.Plain(sample.Whole(got)), sample.Plain(sample.Whole(want))) {
					t.Fatalf("%s(%s): what lies in the spare room was handed out", name, short(x))
				}
				if twice := sample.Spoil([]api.Term{got}); twice > 0 {
					t.Fatalf("%s(%s): lists of one answer share memory", name, short(x))
				}
				if !reflect.DeepEqual(before, sample.Whole(x)) {
					t.Fatalf("%s(%s): what was handed in was changed, or handed out", name, short(x))
				}
			}
		}
	}
}

// A part that stands in two places of one term is made for each.
func TestWhatIsShared(t *testing.T) {
	part := grown(grown(of(api.HComp, loop(0), lam(loop(1))), row{neg(1)}, loop(1)), always, loop(2))
	for _, x := range []api.Term{
		of(api.CircleEl, part, part, part, comp(part, part)), of(api.CircleEl, part, part, part, comp(part, part, at(part.Sys[0].Face, part), at(part.Sys[0].Face, part))), of(api.SuspEl, v(0), part, part, part, part), of(api.SuspEl, part, part, part, part, comp(part, part, at(part.Sys[1].Face, part), at(part.Sys[1].Face, part))),
		along(part.Sys[0].Face, susp(part), merid(part, part.Sys[0].Face)), along(part.Sys[0].Face, susp(part), comp(part, part, at(part.Sys[0].Face, part), at(part.Sys[0].Face, part))), along(never, susp(part), part), along(never, susp(part), north),
	} {
		_, name := rowOf(x)
		want, ok, e := calls()[name](term.Copy(x))
		got, _, _ := calls()[name](x)
		if !ok || e != api.OK || !term.Same(got, want) || sample.Spoil([]api.Term{got}) > 0 {
			t.Errorf("%s(%s) = %s, %t, %d, not %s; or parts of it share memory", name, short(x), short(got), ok, e, short(want))
		}
	}
}

// A list without an element may be nil or empty.
func TestEmptyLists(t *testing.T) {
	for _, x := range comers(2000) {
		for name, do := range calls() {
			want, _, e := do(x.Term)
			becomes(t, name, sample.Plain(x.Term), want, e)
		}
	}
	for _, r := range []row{nil, {}} {
		for _, l := range []system{nil, {}} {
			bare, branched := comp(univ, base, l...), comp(univ, base, append(l, at(r, univ))...)
			bare.Sys = l
			becomes(t, "Elim", of(api.CircleEl, circle, univ, univ, bare), comp(circle, along(never, circle, of(api.CircleEl, circle, univ, univ, base))), api.OK)
			becomes(t, "Elim", of(api.CircleEl, circle, univ, univ, branched), comp(circle, along(never, circle, of(api.CircleEl, circle, univ, univ, base)), at(never, along(row{pos(1)}, circle, of(api.CircleEl, circle, univ, univ, univ)))), api.OK)
			becomes(t, "Carry", along(r, susp(univ), bare), comp(susp(univ), along(never, susp(univ), base)), api.OK)
			becomes(t, "Carry", along(r, susp(univ), branched), comp(susp(univ), along(never, susp(univ), base), at(never, along(never, susp(univ), univ))), api.OK)
			becomes(t, "Carry", along(r, susp(univ), merid(base, r)), merid(along(never, univ, base), never), api.OK)
		}
	}
}
