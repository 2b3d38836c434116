package head

import (
	"fmt"
	"testing"

	"hypercube/api"
	"hypercube/sample"
	"hypercube/step"
	"hypercube/term"
)

// row is what a formula is written as, and a face.
type row = []api.Clause

// Short names for what the tests write most.
var (
	pos, neg                = sample.Pos, sample.Neg
	of, with, grown         = sample.Node, sample.With, sample.Grown
	v, loop, times          = sample.Var, sample.Loop, sample.Times
	lam, plam, fst          = sample.Lam, sample.PLam, sample.Fst
	univ, circle, base      = of(api.Univ), of(api.Circle), of(api.Base)
	north, south            = of(api.North), of(api.South)
	never, always, own, off = row{}, row{{}}, row{pos(1)}, row{neg(1)}
)

func pair(a, b api.Term) api.Term            { return of(api.Pair, a, b) }
func snd(p api.Term) api.Term                { return of(api.Snd, p) }
func app(f, a api.Term) api.Term             { return of(api.App, f, a) }
func pi(a, b api.Term) api.Term              { return of(api.Pi, a, b) }
func sigma(a, b api.Term) api.Term           { return of(api.Sigma, a, b) }
func susp(a api.Term) api.Term               { return of(api.Susp, a) }
func merid(r row, a api.Term) api.Term       { return with(of(api.Merid, a), r) }
func the(a api.Term) api.Term                { return of(api.The, a, univ) }
func comp(t, a api.Term) api.Term            { return of(api.HComp, t, a) }
func point(r row, p, a, b api.Term) api.Term { return with(of(api.PApp, p, a, b), r) }
func along(f row, line, a api.Term) api.Term { return with(of(api.Transp, line, a), f) }
func name(s string) api.Term                 { return api.Term{Kind: api.Const, Name: s} }
func circleEl(x api.Term) api.Term           { return of(api.CircleEl, univ, base, loop(3), x) }
func suspEl(x api.Term) api.Term             { return of(api.SuspEl, univ, base, base, lam(v(0)), x) }

// twice tells a function that hands itself to itself.
func twice() api.Term { return lam(app(v(0), v(0))) }

// endless tells a term that has no head, with whatever fuel.
func endless() api.Term { return app(twice(), twice()) }

// short tells how a term begins.
func short(t api.Term) string {
	text := fmt.Sprint(t)
	return text[:min(len(text), 300)]
}

// heads holds Head's answer against what is wanted: a term and what is left, or a refusal, which has nothing beside it.
func heads(t *testing.T, defs []step.Def, x api.Term, fuel int, want api.Term, left int, wantE api.Errno) {
	t.Helper()
	if wantE != api.OK {
		want, left = api.Term{}, 0
	}
	got, gotLeft, e := Head(defs, x, fuel)
	if e != wantE || gotLeft != left || !term.Same(got, want) || e != api.OK && got.Kids != nil {
		t.Errorf("Head(%s, %d) = %s, %d, %d, not %s, %d, %d", short(x), fuel, short(got), gotLeft, e, short(want), left, wantE)
	}
}

// costs holds a head and its cost against what is wanted, with just enough fuel, with more, and with less.
func costs(t *testing.T, defs []step.Def, x, want api.Term, cost int) {
	t.Helper()
	for _, more := range []int{0, 1, 7, api.MaxFuel - cost} {
		heads(t, defs, x, cost+more, want, more, api.OK)
	}
	for fuel := range cost {
		heads(t, defs, x, fuel, api.Term{}, 0, api.ErrFuel)
	}
}

func TestExamples(t *testing.T) {
	f := fst(pair(lam(v(0)), base))
	heads(t, nil, app(f, univ), 5, univ, 3, api.OK)
	heads(t, nil, app(f, univ), 1, api.Term{}, 0, api.ErrFuel)
	costs(t, nil, app(f, univ), univ, 2)
}

// veil tells a term that steps to another one, so many times.
type veil struct {
	over func(x api.Term) api.Term
	cost int
}

// veils tells one for each row of chapter 16's table that a term may be the answer of as it stands; what is beside it has no head, and is not looked at.
func veils() []veil {
	beside := endless()
	return []veil{
		{the, 1}, {func(x api.Term) api.Term { return of(api.The, x, beside) }, 1},
		{func(x api.Term) api.Term { return app(lam(v(0)), x) }, 1},
		{func(x api.Term) api.Term { return app(the(lam(v(0))), x) }, 2},
		{func(x api.Term) api.Term { return fst(pair(x, beside)) }, 1},
		{func(x api.Term) api.Term { return snd(pair(beside, x)) }, 1},
		{func(x api.Term) api.Term { return snd(fst(pair(pair(beside, x), beside))) }, 2},
		{func(x api.Term) api.Term { return point(nil, beside, x, beside) }, 1},
		{func(x api.Term) api.Term { return point(always, beside, beside, x) }, 1},
		{func(x api.Term) api.Term { return along(always, beside, x) }, 1},
		{func(x api.Term) api.Term { return along(own, univ, x) }, 1},
		{func(x api.Term) api.Term { return along(off, circle, x) }, 1},
		{func(x api.Term) api.Term { return along(off, the(the(circle)), x) }, 3},
		{func(x api.Term) api.Term {
			return grown(grown(of(api.Glue, beside), off, beside, beside), always, x, beside)
		}, 1},
		{func(x api.Term) api.Term { return grown(grown(of(api.MkGlue, beside), always, x), always, beside) }, 1},
		{func(x api.Term) api.Term { return of(api.Unglue, of(api.MkGlue, x)) }, 1},
		{func(x api.Term) api.Term { return of(api.Unglue, the(grown(of(api.MkGlue, x), off, beside))) }, 2},
		{func(x api.Term) api.Term { return of(api.CircleEl, beside, x, beside, base) }, 1},
		{func(x api.Term) api.Term { return of(api.CircleEl, beside, x, beside, with(of(api.Loop), always)) }, 2},
		{func(x api.Term) api.Term { return of(api.CircleEl, beside, x, beside, the(with(of(api.Loop), nil))) }, 3},
		{func(x api.Term) api.Term { return of(api.SuspEl, beside, x, beside, beside, north) }, 1},
		{func(x api.Term) api.Term { return of(api.SuspEl, beside, beside, x, beside, south) }, 1},
		{func(x api.Term) api.Term { return of(api.SuspEl, beside, beside, x, beside, merid(always, beside)) }, 2},
	}
}

// frames tells one node of each kind that has a main Kid, which stands there; what is beside it has no head.
func frames() []func(x api.Term) api.Term {
	beside := endless()
	return []func(x api.Term) api.Term{
		func(x api.Term) api.Term { return app(x, beside) }, fst, snd,
		func(x api.Term) api.Term { return point(own, x, beside, beside) },
		func(x api.Term) api.Term { return grown(of(api.Unglue, x), off, beside) },
		func(x api.Term) api.Term { return grown(comp(x, beside), off, beside) },
		func(x api.Term) api.Term { return along(own, x, beside) },
		func(x api.Term) api.Term { return of(api.CircleEl, beside, beside, beside, x) },
		func(x api.Term) api.Term { return of(api.SuspEl, beside, beside, beside, beside, x) },
	}
}

// still tells whether a term's own node does not step as it is.
func still(x api.Term) bool {
	_, ok, e := step.Step(nil, x)
	return !ok && e == api.OK
}

// ownHeads tells terms that are heads, of all kinds; in places that are not looked at stands a part.
func ownHeads(part api.Term) []api.Term {
	out := []api.Term{
		v(0), v(7), name("nobody"), univ, circle, base, north, south, pi(part, part), sigma(part, part), lam(part), plam(part), pair(part, part), susp(part),
		of(api.Path, part, part, part), loop(1), merid(own, part), merid(off, part), of(api.Glue, part), grown(of(api.Glue, part), off, part, part), of(api.MkGlue, part), grown(of(api.MkGlue, part), own, part), grown(of(api.MkGlue, part), never, part),
		comp(circle, part), comp(susp(part), part), grown(grown(comp(susp(part), part), own, part), off, part), along(own, susp(part), v(3)), along(own, susp(part), base),
	}
	for _, frame := range frames() {
		for _, x := range []api.Term{v(2), name("nobody"), app(v(0), part), fst(snd(v(1))), lam(part), pair(part, part), plam(part)} {
			if y := frame(x); still(y) {
				out = append(out, y)
			}
		}
	}
	return out
}

// A head is its own, at no cost, whatever stands where nothing is looked at.
func TestOwnHeads(t *testing.T) {
	kinds := map[int]bool{}
	for _, part := range []api.Term{v(3), the(base), endless(), app(name("a"), univ)} {
		for _, x := range ownHeads(part) {
			kinds[x.Kind] = true
			costs(t, nil, x, x, 0)
			costs(t, []step.Def{{Name: "a", Body: lam(base)}, {Name: "", Body: base}}, x, x, 0)
		}
	}
	if kinds[api.The] || len(kinds) != 27 {
		t.Errorf("heads of %d kinds", len(kinds))
	}
}

// Terms that step, and whose answers step.
func TestOwnNodes(t *testing.T) {
	heads := []api.Term{v(4), univ, lam(the(v(0))), pair(the(v(1)), endless()), app(v(0), endless())}
	for _, a := range veils() {
		for _, x := range heads {
			costs(t, nil, a.over(x), x, a.cost)
			for _, b := range veils() {
				costs(t, nil, a.over(b.over(x)), x, a.cost+b.cost)
			}
			costs(t, nil, times(9, x, a.over), x, 9*a.cost)
		}
	}
	costs(t, nil, times(150, base, the), base, 150)
}

// Terms whose main Kid steps first: by itself, or by its own main Kid; what stands beside it is not looked at.
func TestMainKids(t *testing.T) {
	stepping := 0
	for _, frame := range frames() {
		for _, a := range veils() {
			if !still(frame(a.over(v(0)))) {
				stepping++
				continue
			}
			costs(t, nil, frame(a.over(v(0))), frame(v(0)), a.cost)
			costs(t, nil, frame(times(3, v(0), a.over)), frame(v(0)), 3*a.cost)
			costs(t, nil, a.over(frame(a.over(v(0)))), frame(v(0)), 2*a.cost)
		}
		for _, deeper := range frames() {
			if !still(frame(deeper(v(0)))) {
				stepping++
				continue
			}
			costs(t, nil, frame(deeper(the(v(0)))), frame(deeper(v(0))), 1)
			costs(t, nil, frame(the(deeper(the(v(0))))), frame(deeper(v(0))), 2)
			costs(t, nil, frame(the(frame(deeper(fst(pair(name("a"), base)))))), frame(frame(deeper(name("a")))), 2)
		}
	}
	if stepping != 5 {
		t.Errorf("%d nodes step with what they are to hold", stepping)
	}
}

// What the main Kid becomes makes the node step.
func TestStepsByTheMainKid(t *testing.T) {
	h := grown(comp(circle, base), own, loop(0))
	for _, x := range []struct {
		from, to api.Term
		cost     int
	}{
		{app(the(lam(v(0))), base), base, 2}, {app(app(the(lam(lam(v(1)))), base), endless()), base, 3}, {app(app(the(lam(the(lam(v(1))))), base), endless()), base, 4},
		{app(the(lam(app(v(0), base))), the(the(v(2)))), app(v(2), base), 4}, {app(snd(pair(base, lam(fst(v(0))))), the(pair(the(univ), base))), univ, 5},
		{fst(the(pair(the(univ), endless()))), univ, 3}, {snd(app(lam(pair(v(0), v(1))), endless())), v(0), 2},
		{point(row{pos(4)}, the(plam(the(loop(0)))), endless(), endless()), loop(2), 3}, {of(api.Unglue, the(of(api.MkGlue, the(v(0))))), v(0), 3},
		{circleEl(the(base)), base, 2}, {of(api.CircleEl, univ, base, the(plam(loop(0))), the(loop(2))), loop(2), 4}, {suspEl(the(the(south))), base, 3}, {suspEl(the(merid(row{pos(4)}, plam(loop(0))))), loop(2), 4},
		{circleEl(the(h)), stepped(t, grown(comp(univ, along(never, univ, circleEl(base))), own, along(own, univ, of(api.CircleEl, univ, base, loop(4), loop(0))))), 3},
		{comp(the(univ), circle), of(api.Glue, circle), 2}, {comp(the(of(api.Glue, circle)), base), of(api.MkGlue, comp(circle, of(api.Unglue, base))), 2},
		{grown(comp(the(pi(univ, v(0))), v(1)), own, v(3)), lam(grown(comp(v(0), app(v(2), v(0))), own, app(v(4), v(0)))), 2},
		{along(own, the(circle), the(base)), base, 3}, {along(own, app(lam(sigma(v(0), univ)), univ), v(2)), pair(along(own, univ, fst(v(2))), along(own, univ, snd(v(2)))), 2},
	} {
		costs(t, nil, x.from, x.to, x.cost)
	}
}

// stepped tells what a term becomes by one step.
func stepped(t *testing.T, x api.Term) api.Term {
	t.Helper()
	got, ok, e := step.Step(nil, x)
	if !ok || e != api.OK {
		t.Fatalf("Step(%s): %t, %d", short(x), ok, e)
	}
	return got
}

// A node steps ahead of its main Kid, even where that has no head.
func TestTheOwnNodeFirst(t *testing.T) {
	no := endless()
	costs(t, nil, along(always, no, v(0)), v(0), 1)
	costs(t, nil, grown(comp(no, no), always, v(0)), v(0), 1)
	costs(t, nil, grown(of(api.Unglue, no), always, pair(lam(base), no)), base, 3)
	costs(t, nil, point(nil, no, v(1), no), v(1), 1)
	costs(t, nil, point(always, no, no, v(1)), v(1), 1)
	costs(t, nil, of(api.Unglue, of(api.MkGlue, the(v(0)))), v(0), 2)
	// A total branch of MkGlue, as its own node, but not as the main Kid of what steps by it as it is.
	costs(t, nil, of(api.Unglue, grown(of(api.MkGlue, v(0)), always, no)), v(0), 1)
	costs(t, nil, of(api.CircleEl, univ, v(0), plam(the(v(1))), with(of(api.Loop), always)), v(0), 2)
	costs(t, nil, of(api.SuspEl, univ, v(0), v(1), lam(no), merid(always, no)), v(1), 2)
}

// Of a Transp whose first Kid is a Susp, or becomes one, the second Kid is looked at behind that.
func TestSecondKids(t *testing.T) {
	no := endless()
	for _, line := range []struct {
		is   api.Term
		cost int
	}{{susp(loop(0)), 0}, {the(susp(loop(0))), 1}, {app(the(lam(the(susp(v(0))))), loop(0)), 3}} {
		on := func(x api.Term) api.Term { return along(own, line.is, x) }
		for _, x := range []struct {
			from, to api.Term
			cost     int
		}{
			{v(2), along(own, susp(loop(0)), v(2)), 0}, {the(v(2)), along(own, susp(loop(0)), v(2)), 1}, {base, along(own, susp(loop(0)), base), 0}, {fst(the(the(v(2)))), along(own, susp(loop(0)), fst(v(2))), 2},
			{north, north, 1}, {the(north), north, 2}, {the(the(south)), south, 3}, {snd(the(pair(no, the(south)))), south, 4},
			{merid(nil, no), north, 2}, {merid(off, base), merid(off, along(own, loop(0), base)), 1}, {the(merid(off, the(base))), merid(off, along(own, loop(0), the(base))), 2}, {the(merid(always, no)), south, 3},
			{the(comp(susp(loop(0)), v(2))), comp(susp(with(of(api.Loop), always)), along(own, susp(loop(0)), v(2))), 2},
			{along(off, susp(univ), the(north)), north, 3}, {along(off, the(susp(univ)), the(v(1))), along(own, susp(loop(0)), along(off, susp(univ), v(1))), 2}, {along(off, the(v(0)), the(v(1))), along(own, susp(loop(0)), along(off, v(0), the(v(1)))), 1},
		} {
			costs(t, nil, on(x.from), x.to, x.cost+line.cost)
		}
		heads(t, nil, on(no), 30, api.Term{}, 0, api.ErrFuel)
		heads(t, nil, on(pair(no, no)), 30, along(own, susp(loop(0)), pair(no, no)), 30-line.cost, api.OK)
	}
}

// Where the line is no Susp, the second Kid is not looked at; nor is the second Kid of any other kind.
func TestNoSecondKids(t *testing.T) {
	for _, second := range []api.Term{the(north), endless()} {
		for _, frame := range frames() {
			line := frame(v(0))
			costs(t, nil, along(off, line, second), along(off, line, second), 0)
			costs(t, nil, along(off, the(line), second), along(off, line, second), 1)
		}
		for _, line := range []api.Term{v(0), base, north, lam(susp(v(0))), pair(susp(univ), base), name("a"), comp(susp(univ), base), loop(0)} {
			costs(t, nil, along(off, line, second), along(off, line, second), 0)
			costs(t, nil, along(off, the(line), second), along(off, line, second), 1)
		}
		for _, x := range []api.Term{comp(susp(univ), second), app(v(0), second), pair(susp(univ), second), sigma(susp(univ), second), of(api.Path, susp(univ), second, second), point(own, v(0), second, second), app(susp(univ), second), comp(circle, second)} {
			costs(t, nil, x, x, 0)
			costs(t, nil, the(x), x, 1)
		}
	}
	costs(t, nil, along(off, the(circle), the(north)), north, 3)
}

// A main Kid, and a second one, stand behind a binder of a dimension, or beside one: its own dimension is left alone.
func TestBehindABinder(t *testing.T) {
	glued := func(r row) api.Term { return grown(of(api.Glue, univ), r, circle, base) }
	last, first := row{pos(sample.Last)}, row{pos(1)}
	for _, r := range []row{first, {pos(1 << 22)}, {neg(1)}, {neg(1), pos(2)}} {
		line := point(r, plam(loop(0)), base, base)
		costs(t, nil, along(off, line, north), along(off, with(of(api.Loop), r), north), 1)
	}
	for _, r := range []row{first, last, {neg(1)}, {neg(1), pos(2)}} {
		costs(t, nil, along(last, app(lam(point(r, v(0), base, base)), the(v(7))), north), along(last, point(r, v(7), base, base), north), 2)
		costs(t, nil, along(last, fst(pair(fst(glued(r)), base)), north), along(last, fst(glued(r)), north), 1)
		costs(t, nil, along(last, susp(loop(0)), the(merid(r, v(0)))), merid(r, along(last, loop(0), v(0))), 2)
	}
	// As many dimensions as there are stand outside of the line.
	inner := along(last, the(along(last, app(lam(v(0)), with(of(api.Loop), last)), north)), south)
	costs(t, nil, inner, along(last, along(last, with(of(api.Loop), last), north), south), 2)
	costs(t, nil, along(own, app(plam(base), the(base)), base), along(own, app(plam(base), the(base)), base), 0)
}

// Names: with a body, with one that may not be, with none, with one that is a name.
func TestNames(t *testing.T) {
	defs := []step.Def{
		{Name: "id", Body: lam(v(0))}, {Name: "two", Body: app(name("id"), name("one"))}, {Name: "one", Body: univ}, {Name: "one", Body: base}, {Name: "open", Body: v(0)}, {Name: "wrong", Body: api.Term{}},
		{Name: "a", Body: name("b")}, {Name: "b", Body: name("a")}, {Name: "self", Body: name("self")}, {Name: "grows", Body: app(name("grows"), univ)}, {Name: "part", Body: lam(app(name("self"), v(0)))}, {Name: "kept", Body: pair(name("one"), name("self"))},
	}
	for _, x := range []struct {
		from, to api.Term
		cost     int
	}{
		{name("one"), univ, 1}, {name("id"), lam(v(0)), 1}, {name("two"), univ, 4}, {app(name("id"), name("two")), univ, 6}, {name("open"), name("open"), 0}, {name("wrong"), name("wrong"), 0}, {name("none"), name("none"), 0},
		{app(name("open"), name("one")), app(name("open"), name("one")), 0}, {app(the(name("wrong")), base), app(name("wrong"), base), 1}, {fst(name("kept")), univ, 3}, {app(name("none"), name("self")), app(name("none"), name("self")), 0},
		{along(own, name("one"), name("two")), univ, 6}, {lam(name("one")), lam(name("one")), 0}, {name("part"), lam(app(name("self"), v(0))), 1}, {name("kept"), pair(name("one"), name("self")), 1},
	} {
		costs(t, defs, x.from, x.to, x.cost)
	}
	for _, x := range []api.Term{name("self"), name("a"), name("b"), name("grows"), snd(name("kept")), app(name("part"), base), fst(app(name("self"), base))} {
		for _, fuel := range []int{0, 1, 2, 5, 99, 1000} {
			heads(t, defs, x, fuel, api.Term{}, 0, api.ErrFuel)
		}
	}
}

// Terms that have no head at any fuel.
func TestWithoutAHead(t *testing.T) {
	thrice := lam(app(app(v(0), v(0)), v(0)))
	for _, x := range []api.Term{endless(), the(endless()), app(endless(), base), snd(pair(base, endless())), app(thrice, thrice), along(own, susp(univ), endless())} {
		for _, fuel := range []int{0, 1, 2, 3, 50, 51, 3000} {
			heads(t, nil, x, fuel, api.Term{}, 0, api.ErrFuel)
		}
		for _, frame := range frames() {
			heads(t, nil, frame(x), 200, api.Term{}, 0, api.ErrFuel)
		}
	}
	heads(t, nil, endless(), api.MaxFuel, api.Term{}, 0, api.ErrFuel)
	// One main Kid within another, as often as there are steps.
	heads(t, nil, app(thrice, thrice), api.MaxFuel, api.Term{}, 0, api.ErrFuel)
	heads(t, []step.Def{{Name: "a", Body: name("a")}}, name("a"), api.MaxFuel, api.Term{}, 0, api.ErrFuel)
}
