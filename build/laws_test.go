package build

import (
	"reflect"
	"slices"
	"testing"

	"hypercube/api"
	"hypercube/dims"
	"hypercube/face"
	"hypercube/formula"
	"hypercube/lift"
	"hypercube/sample"
	"hypercube/term"
)

// P15.5.

// grownArgs tells arguments that may be: a line in a dimension more, as those of branches are, all others in so many; most have no face that is never.
type grownArgs struct {
	args
	vars, dims int
}

func someGrown(seeds uint32) []grownArgs {
	var out []grownArgs
	for seed := range seeds {
		g := sample.Grow(seed)
		vars, dims := g.Below(5), g.Below(9)
		some := func(more int) api.Term { return g.Term(vars, dims+more, g.Below(40)) }
		x := args{t: some(1), a: some(0), f: some(0), y: some(0), phi: g.Row(dims, true)}
		for range g.Below(4) {
			x.sys = append(x.sys, at(g.Row(dims, true), some(1)))
		}
		out = append(out, grownArgs{x, vars, dims})
	}
	return out
}

// told tells what a call makes, which it is not to refuse.
func told(t *testing.T, name string, got api.Term, e api.Errno) api.Term {
	t.Helper()
	if e != api.OK {
		t.Fatalf("%s is refused: %d", name, e)
	}
	return got
}

// put tells what a line is at a formula.
func put(t *testing.T, line api.Term, r row) api.Term {
	t.Helper()
	got, e := dims.Take(line, 0, r)
	return told(t, "Take", got, e)
}

// raised tells a term under one dimension more.
func raised(t *testing.T, x api.Term) api.Term {
	t.Helper()
	got, e := lift.Dims(x, 0, 1)
	return told(t, "Dims", got, e)
}

// neverless tells a term without branches that never are.
func neverless(t *testing.T, x api.Term) api.Term {
	t.Helper()
	got, e := dims.Put(x, 0, row{pos(1)})
	return told(t, "Put", got, e)
}

// Terms that may be make terms that may be, in as many variables, and as many dimensions, a line in one more; of all dimensions that there can be, as far as their binders leave room.
func TestMayBe(t *testing.T) {
	for _, x := range someGrown(3000) {
		line := args{t: x.t, a: x.a, phi: x.phi, sys: x.sys}
		plain := args{t: x.a, a: x.y, f: x.f, y: x.y, sys: x.sys}
		for name, do := range calls() {
			in, more := plain, 0
			switch name {
			case "Comp":
				in = line
			case "Run", "Back":
				in, more = line, 1
			case "Fill":
				more = 1
			}
			got, e := do(in)
			told(t, name, got, e)
			if e := term.Right(got, x.vars, x.dims+more); e != api.OK || !sample.MayBe(got, x.vars, x.dims+more) {
				t.Fatalf("%s = %s may not be: %d", name, short(got), e)
			}
		}
	}
	if e := term.Right(Id(), 0, 0); e != api.OK {
		t.Errorf("Id may not be: %d", e)
	}
}

// What is lifted first makes what is lifted afterwards: nothing of the outside is bound.
func TestNothingIsBound(t *testing.T) {
	up := func(x api.Term, vars, dims int) api.Term {
		got, e := lift.Both(x, vars, dims)
		return told(t, "Both", got, e)
	}
	// A line's own dimension stays.
	along := func(x api.Term, vars, dims int) api.Term {
		got, e := lift.Vars(x, 0, vars)
		got, e2 := lift.Dims(told(t, "Vars", got, e), 1, dims)
		return told(t, "Dims", got, e2)
	}
	for _, x := range someGrown(1000) {
		for _, by := range [][2]int{{1, 0}, {0, 1}, {3, 2}} {
			vars, dims := by[0], by[1]
			f, _ := formula.Lift(x.phi, 0, dims)
			var sys system
			for _, b := range x.sys {
				g, _ := formula.Lift(b.Face, 0, dims)
				sys = append(sys, at(g, along(b.Kids[0], vars, dims)))
			}
			line := args{t: x.t, a: x.a, phi: x.phi, sys: x.sys}
			lineUp := args{t: along(x.t, vars, dims), a: up(x.a, vars, dims), phi: f, sys: sys}
			plain := args{t: x.a, a: x.y, f: x.f, y: x.a, sys: x.sys}
			plainUp := args{t: up(x.a, vars, dims), a: up(x.y, vars, dims), f: up(x.f, vars, dims), y: up(x.a, vars, dims), sys: sys}
			for name, do := range calls() {
				in, inUp, after := plain, plainUp, up
				switch name {
				case "Comp":
					in, inUp = line, lineUp
				case "Run", "Back":
					in, inUp, after = line, lineUp, along
				case "Fill":
					after = along
				}
				got, e := do(inUp)
				want, wantE := do(in)
				answer(t, name, got, e, after(told(t, name, want, wantE), vars, dims), api.OK)
			}
		}
		if t.Failed() {
			t.FailNow()
		}
	}
}

// A Fill at i=1 is the composition, if no face is never; else branches that never are are gone. At i=0 it has a total branch, which is steady.
func TestFillAtItsEnds(t *testing.T) {
	same, steady := 0, 0
	for _, x := range someGrown(3000) {
		fill, e := Fill(x.a, x.y, x.sys)
		told(t, "Fill", fill, e)
		plain := composed(x.a, x.y, x.sys...)
		want := neverless(t, plain)
		got := put(t, fill, always)
		answer(t, "Fill at 1", got, api.OK, want, api.OK)
		if term.Same(want, plain) {
			same++
		}
		got = put(t, fill, never)
		if n := len(got.Sys) - 1; n < 0 || !slices.Equal(got.Sys[n].Face, always) || !term.Same(got.Sys[n].Kids[0], raised(t, neverless(t, x.y))) {
			t.Fatalf("Fill at 0 = %s", short(got))
		}
		// All other branches stay where they were there.
		for n, b := range neverless(t, plain).Sys {
			begin := raised(t, put(t, b.Kids[0], never))
			if !slices.Equal(got.Sys[n].Face, b.Face) || !term.Same(got.Sys[n].Kids[0], begin) {
				t.Fatalf("Fill at 0 = %s, of %s", short(got), short(begin))
			}
			steady++
		}
	}
	if same < 300 || steady < 2000 {
		t.Errorf("too few to tell: %d, %d", same, steady)
	}
}

// A Run at i=1 is the Transp of the line, where phi is; at i=0 its face is always, and nothing goes along; a Back at i=1 likewise, and at i=0 it is the Transp of the line turned about.
func TestRunAndBackAtTheirEnds(t *testing.T) {
	same := 0
	for _, x := range someGrown(4000) {
		plain := carry(x.phi, x.t, x.a)
		run, e := Run(x.t, x.phi, x.a)
		told(t, "Run", run, e)
		back, e := Back(x.t, x.phi, x.a)
		told(t, "Back", back, e)
		want := neverless(t, plain)
		answer(t, "Run at 1", put(t, run, always), api.OK, want, api.OK)
		if term.Same(want, plain) {
			same++
		}
		there := raised(t, put(t, x.t, never))
		answer(t, "Run at 0", put(t, run, never), api.OK, carry(always, there, neverless(t, x.a)), api.OK)
		there = raised(t, put(t, x.t, always))
		answer(t, "Back at 1", put(t, back, always), api.OK, carry(always, there, neverless(t, x.a)), api.OK)
		turned, e := lift.Dims(x.t, 1, 1)
		turned = put(t, told(t, "Dims", turned, e), row{neg(1)})
		answer(t, "Back at 0", put(t, back, never), api.OK, carry(x.phi, turned, neverless(t, x.a)), api.OK)
	}
	if same < 1000 {
		t.Errorf("too few to tell: %d", same)
	}
}

// A Comp begins with the Transp of the line; each branch goes from the line at i, where it is, to the line's end, and has no way to go at i=1.
func TestCompAtItsEnds(t *testing.T) {
	for _, x := range someGrown(2000) {
		got, e := Comp(x.t, x.a, x.sys)
		told(t, "Comp", got, e)
		answer(t, "Comp", got.Kids[1], api.OK, carry(never, x.t, x.a), api.OK)
		end := put(t, x.t, always)
		answer(t, "Comp", got.Kids[0], api.OK, end, api.OK)
		for n, b := range got.Sys {
			if !slices.Equal(b.Face, x.sys[n].Face) {
				t.Fatalf("Comp = %s", short(got))
			}
			u := neverless(t, x.sys[n].Kids[0])
			answer(t, "Comp's branch at 0", put(t, neverless(t, b.Kids[0]), never), api.OK, carry(never, neverless(t, x.t), put(t, u, never)), api.OK)
			answer(t, "Comp's branch at 1", put(t, b.Kids[0], always), api.OK, carry(always, raised(t, end), put(t, u, always)), api.OK)
		}
	}
}

// A Contr of a Fiber of what is handed on to Equiv is its inner part; and each part of a whole is that which the call for it makes.
func TestEquivOfItsParts(t *testing.T) {
	for _, x := range someGrown(1500) {
		got, e := Equiv(x.a, x.y)
		told(t, "Equiv", got, e)
		there, e := lift.Both(x.a, 2, 0)
		told(t, "Both", there, e)
		to, e := lift.Both(x.y, 2, 0)
		told(t, "Both", to, e)
		fibers, e := Fiber(there, to, v(1), v(0))
		want, e2 := Contr(told(t, "Fiber", fibers, e))
		answer(t, "Equiv", got.Kids[1].Kids[1], api.OK, told(t, "Contr", want, e2), api.OK)
	}
}

// The rules that hold everywhere: what is handed in stays as it is, its spare room too, and what lies there is not read; what is handed out is of its own memory.
func TestMemory(t *testing.T) {
	for _, s := range someGrown(250) {
		for name, do := range calls() {
			all := composed(s.t, s.a, append(s.sys[:len(s.sys):len(s.sys)], at(s.phi, of(api.Pair, s.f, s.y)))...)
			x := sample.Roomy(all)
			last := x.Sys[len(s.sys)]
			before := sample.Whole(x)
			want, wantE := do(s.args)
			for range 2 {
				got, e := do(args{x.Kids[0], x.Kids[1], last.Kids[0].Kids[0], last.Kids[0].Kids[1], last.Face, x.Sys[:len(s.sys)]})
				answer(t, name, got, e, want, wantE)
				if !reflect.DeepEqual(sample.Plain(sample.Whole(got)), sample.Plain(sample.Whole(want))) {
					t.Fatalf("%s: what lies in the spare room was handed out", name)
				}
				if twice := sample.Spoil([]api.Term{got}); twice > 0 {
					t.Fatalf("%s: lists of one answer share memory", name)
				}
				if !reflect.DeepEqual(before, sample.Whole(x)) {
					t.Fatalf("%s: what was handed in was changed, or handed out", name)
				}
			}
		}
	}
}

// A part that is handed in twice, or stands in two places of one term, is made for each.
func TestWhatIsShared(t *testing.T) {
	part := grown(grown(of(api.HComp, loop(0), lam(loop(1))), row{neg(1)}, loop(1)), row{neg(2)}, loop(2))
	x := grown(grown(of(api.Glue, part), part.Sys[0].Face, part, part), part.Sys[1].Face, part, part)
	sys := system{at(part.Sys[0].Face, x), at(part.Sys[0].Face, x), at(part.Sys[1].Face, part)}
	in := args{x, x, x, x, part.Sys[0].Face, sys}
	whole := sample.Plain(composed(x, x, sys...))
	for name, do := range calls() {
		want, wantE := do(args{term.Copy(x), term.Copy(x), term.Copy(x), term.Copy(x), row{neg(1)}, whole.Sys})
		got, e := do(in)
		answer(t, name, got, e, want, wantE)
		if e != api.OK || sample.Spoil([]api.Term{got}) > 0 {
			t.Errorf("%s: parts of an answer share memory", name)
		}
	}
}

// A list without an element may be nil or empty.
func TestEmptyLists(t *testing.T) {
	for _, s := range someGrown(500) {
		whole := sample.Plain(composed(univ, univ, s.sys...))
		in := args{sample.Plain(s.t), sample.Plain(s.a), sample.Plain(s.f), sample.Plain(s.y), append(row{}, s.phi...), whole.Sys}
		for name, do := range calls() {
			want, wantE := do(s.args)
			got, e := do(in)
			answer(t, name, got, e, want, wantE)
		}
	}
	for _, f := range []row{nil, {}} {
		for _, l := range []system{nil, {}} {
			got, e := Run(univ, f, univ)
			answer(t, "Run", got, e, carry(row{neg(1)}, univ, univ), api.OK)
			got, e = Comp(univ, univ, l)
			answer(t, "Comp", got, e, composed(univ, carry(never, univ, univ)), api.OK)
			got, e = Fill(univ, univ, append(l, at(f, univ)))
			answer(t, "Fill", got, e, composed(univ, univ, at(never, univ), at(row{neg(1)}, univ)), api.OK)
		}
	}
}

// The face of a Run is where phi is, or i=0, that of a Back or i=1: each is where nothing goes along.
func TestWhereNothingGoes(t *testing.T) {
	for _, x := range someGrown(1500) {
		for name, end := range map[string]api.Clause{"Run": neg(1), "Back": pos(1)} {
			got, e := calls()[name](x.args)
			told(t, name, got, e)
			lifted, _ := formula.Lift(x.phi, 0, 1)
			for _, f := range []row{lifted, {end}} {
				if in, e := face.Entails(f, got.R); !in || e != api.OK {
					t.Fatalf("%s at %v is not where %v", name, got.R, f)
				}
			}
			rest, e := face.Restrict(got.R, both(end.Neg, end.Pos))
			if e != api.OK || !slices.Equal(rest, lifted) {
				t.Fatalf("%s at %v is at the other end %v, not %v", name, got.R, rest, lifted)
			}
		}
	}
}
