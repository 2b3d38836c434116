package head

import (
	"reflect"
	"slices"
	"testing"

	"hypercube/api"
	"hypercube/lift"
	"hypercube/sample"
	"hypercube/step"
	"hypercube/term"
)

// P22.2, and what else follows.

// comer is a term with definitions, and what Head tells of it with a fuel that is much for it.
type comer struct {
	sample.Scoped
	defs []step.Def
	head api.Term
	cost int
	e    api.Errno
}

const much = 40

// comers tells such; of few there is no head with so much fuel.
func comers(seeds uint32) []comer {
	var out []comer
	for seed := range seeds {
		g := sample.Grow(seed + 50000)
		c := comer{Scoped: someTerm(g), defs: grownDefs(g)}
		left := 0
		c.head, left, c.e = Head(c.defs, c.T, much)
		c.cost = much - left
		out = append(out, c)
	}
	return out
}

// A head is its own head, at no cost, and its node does not step.
func TestHeadOfAHead(t *testing.T) {
	told := 0
	for _, c := range comers(3000) {
		if c.e != api.OK {
			continue
		}
		told++
		for _, fuel := range []int{0, 1, api.MaxFuel} {
			heads(t, c.defs, c.head, fuel, c.head, fuel, api.OK)
		}
		if _, ok, e := step.Step(c.defs, c.head); ok || e != api.OK {
			t.Fatalf("the head %s steps: %t, %d", short(c.head), ok, e)
		}
		if main := step.Main(c.head); main >= 0 {
			heads(t, c.defs, c.head.Kids[main], 0, c.head.Kids[main], 0, api.OK)
		}
	}
	if told < 2500 {
		t.Errorf("only %d heads", told)
	}
}

// With more fuel the same is told, and as much more is left; what ends for want of fuel ends so with any less.
func TestMoreFuel(t *testing.T) {
	ended, told := 0, map[int]int{}
	for _, c := range comers(2500) {
		if c.e == api.OK {
			costs(t, c.defs, c.T, c.head, c.cost)
			told[min(c.cost, 9)]++
			continue
		}
		// As many steps as there are up to the refusal.
		enough := 0
		for enough < much && refusedWith(c, enough) == api.ErrFuel {
			enough++
		}
		for fuel := range much + 9 {
			if want := refusedWith(c, fuel); fuel < enough != (want == api.ErrFuel) || fuel >= enough && fuel <= much && want != c.e {
				t.Fatalf("Head(%s, %d) = %d, not %d from %d on", short(c.T), fuel, want, c.e, enough)
			}
		}
		ended++
	}
	if ended < 20 {
		t.Errorf("only %d refusals", ended)
	}
	for cost := range 10 {
		if told[cost] < 20 {
			t.Errorf("only %d heads at the cost %d", told[cost], cost)
		}
	}
}

func refusedWith(c comer, fuel int) api.Errno {
	_, _, e := Head(c.defs, c.T, fuel)
	return e
}

// A step of the own node, or of the main Kid, leads to the same head, for as much less.
func TestAndStep(t *testing.T) {
	own, within := 0, 0
	for _, c := range comers(4000) {
		next, ok, e := step.Step(c.defs, c.T)
		if c.e != api.OK || e != api.OK {
			continue
		}
		if ok {
			own++
			heads(t, c.defs, next, much, c.head, much-c.cost+1, api.OK)
			continue
		}
		main := step.Main(c.T)
		if main < 0 {
			heads(t, c.defs, c.T, 0, c.T, 0, api.OK)
			continue
		}
		kid, left, e := Head(c.defs, c.T.Kids[main], much)
		next = term.Copy(c.T)
		next.Kids[main] = kid
		if e != api.OK {
			t.Fatalf("Head(%s): %d", short(c.T.Kids[main]), e)
		}
		heads(t, c.defs, next, left, c.head, much-c.cost, api.OK)
		within++
	}
	if own < 1000 || within < 500 {
		t.Errorf("too few to tell: %d, %d", own, within)
	}
}

// A head of a term that may be may be. (Where there is no room for the dimensions that a step binds, what it becomes is formed, but has more than there may be.)
func TestScope(t *testing.T) {
	changed := map[int]int{}
	for _, c := range comers(6000) {
		if c.e != api.OK || c.Dims > 12 {
			continue
		}
		if e := term.Right(c.head, c.Vars, c.Dims); e != api.OK || !sample.MayBe(c.head, c.Vars, c.Dims) {
			t.Fatalf("the head of %s is %s, which may not be: %d", short(c.T), short(c.head), e)
		}
		if c.cost > 0 {
			changed[c.head.Kind]++
		}
	}
	if len(changed) < 25 {
		t.Errorf("heads of %d kinds", len(changed))
	}
}

// What is lifted has the head lifted, at the same cost: a body is of no outside, and nothing else of the outside is bound.
func TestAndLift(t *testing.T) {
	told := 0
	for _, c := range comers(3000) {
		if c.e != api.OK || c.Dims > 12 {
			continue
		}
		for _, by := range [][2]int{{1, 0}, {0, 1}, {3, 2}} {
			up, e1 := lift.Both(c.T, by[0], by[1])
			want, e2 := lift.Both(c.head, by[0], by[1])
			if e1 != api.OK || e2 != api.OK {
				t.Fatalf("%s: %d, %d", short(c.T), e1, e2)
			}
			heads(t, c.defs, up, much, want, much-c.cost, api.OK)
		}
		told++
	}
	if told < 1000 {
		t.Errorf("too few to tell: %d", told)
	}
}

// Definitions of names that are not there, and later ones of the same name, change nothing.
func TestMoreDefinitions(t *testing.T) {
	for _, c := range comers(1500) {
		more := append([]step.Def{{Name: "nobody", Body: base}, {Name: "", Body: univ}}, c.defs...)
		for _, d := range c.defs {
			more = append(more, step.Def{Name: d.Name, Body: circle})
		}
		heads(t, more, c.T, much, c.head, much-c.cost, c.e)
	}
}

// roomy tells definitions, each list of which has others behind it.
func roomy(defs []step.Def) []step.Def {
	var out []step.Def
	for _, d := range defs {
		out = append(out, step.Def{Name: d.Name, Body: sample.Roomy(d.Body)})
	}
	for _, s := range []string{"a", "Z", "_", "x0", "fst", "a_B9"} {
		out = append(out, step.Def{Name: s, Body: base})
	}
	return out[:len(defs)]
}

// wholeDefs tells a copy of definitions with all the spare room of their lists.
func wholeDefs(defs []step.Def) []step.Def {
	out := slices.Clone(defs[:cap(defs)])
	for n := range out {
		out[n].Body = sample.Whole(out[n].Body)
	}
	return out
}

// The rules that hold everywhere: what is handed in stays as it is, its spare room too, and what lies there is not read; what is handed out is of its own memory.
func TestMemory(t *testing.T) {
	kept := 0
	for _, c := range comers(3000) {
		x, defs := sample.Roomy(c.T), roomy(c.defs)
		before, defsBefore := sample.Whole(x), wholeDefs(defs)
		for range 2 {
			got, left, e := Head(defs, x, much)
			if e != c.e || e == api.OK && left != much-c.cost || !term.Same(got, c.head) {
				t.Fatalf("Head(%s) = %s, %d, %d, not %s, %d, %d", short(x), short(got), left, e, short(c.head), much-c.cost, c.e)
			}
			if !reflect.DeepEqual(sample.Plain(sample.Whole(got)), sample.Plain(sample.Whole(c.head))) {
				t.Fatalf("Head(%s): what lies in the spare room was handed out", short(x))
			}
			if twice := sample.Spoil([]api.Term{got}); twice > 0 {
				t.Fatalf("Head(%s): lists of one answer share memory", short(x))
			}
			if !reflect.DeepEqual(before, sample.Whole(x)) || !reflect.DeepEqual(defsBefore, wholeDefs(defs)) {
				t.Fatalf("Head(%s): what was handed in was changed, or handed out", short(x))
			}
		}
		if c.e == api.OK && c.cost == 0 {
			kept++
		}
	}
	if kept < 50 {
		t.Errorf("too few of their own: %d", kept)
	}
}

// A term, or a body, that has a part in two places is told with one for each.
func TestWhatIsShared(t *testing.T) {
	part := grown(grown(comp(circle, lam(v(0))), always, of(api.Loop)), never, plam(loop(0)))
	whole := grown(grown(of(api.Glue, part), off, part, part), off, part, part)
	defs := []step.Def{{Name: "a", Body: with(of(api.PApp, lam(univ), part, part), nil)}, {Name: "b", Body: name("a")}}
	for range 2 {
		for _, x := range []api.Term{whole, the(whole), app(the(name("c")), whole), snd(pair(base, fst(app(v(0), whole)))), along(own, the(susp(part)), the(app(v(0), part))), fst(the(fst(the(app(v(1), whole)))))} {
			want, left, e, _ := model(defs, x, 20)
			got, gotLeft, gotE := Head(defs, x, 20)
			if e != api.OK || gotE != api.OK || gotLeft != left || !term.Same(got, want) || sample.Spoil([]api.Term{got}) > 0 {
				t.Errorf("Head(%s) = %s, %d, %d; or parts of it share memory", short(x), short(got), gotLeft, gotE)
			}
		}
	}
	got, left, e := Head(defs, app(name("b"), whole), 20)
	if want, wantLeft, wantE, _ := model(defs, app(name("b"), whole), 20); e != wantE || left != wantLeft || !term.Same(got, want) || sample.Spoil([]api.Term{got}) > 0 {
		t.Errorf("Head(a name) = %s, %d, %d", short(got), left, e)
	}
}

// A list without an element may be nil or empty.
func TestEmptyLists(t *testing.T) {
	for _, c := range comers(1500) {
		defs := append([]step.Def{}, c.defs...)
		for n := range defs {
			defs[n].Body = sample.Plain(defs[n].Body)
		}
		heads(t, defs, sample.Plain(c.T), much, c.head, much-c.cost, c.e)
	}
	heads(t, []step.Def{}, of(api.Univ), 0, univ, 0, api.OK)
}

// What a call answers hangs on nothing that was asked before.
func TestNothingIsKept(t *testing.T) {
	defs := []step.Def{{Name: "a", Body: the(univ)}}
	heads(t, defs, name("a"), 2, univ, 0, api.OK)
	defs[0] = step.Def{Name: "b", Body: base}
	heads(t, defs, name("a"), 2, name("a"), 2, api.OK)
	heads(t, defs, name("b"), 2, base, 1, api.OK)
	heads(t, defs, endless(), 2, api.Term{}, 0, api.ErrFuel)
	heads(t, nil, name("b"), 2, name("b"), 2, api.OK)
}
