package glue

import (
	"testing"

	"hypercube/api"
	"hypercube/build"
	"hypercube/dims"
	"hypercube/face"
	"hypercube/lift"
	"hypercube/sample"
	systems "hypercube/system"
	"hypercube/term"
)

const billion = 1000000000

// refusal is what a part is refused with, and which part it is: that ends all making.
type refusal struct {
	part string
	e    api.Errno
}

// told tells a part by its name, unless it is refused.
func told[T any](part string, x T, e api.Errno) T {
	if e != api.OK {
		panic(refusal{part, e})
	}
	return x
}

// sound tells a term by a part's name, unless it is not formed.
func sound(part string, x api.Term) api.Term { return told(part, x, term.Formed(x)) }

// up tells a part under so many dimensions more.
func up(part string, x api.Term, by int) api.Term {
	got, e := lift.Both(x, 0, by)
	return told(part, got, e)
}

// take tells a part that is a line at a formula.
func take(line api.Term, r row) api.Term {
	got, e := dims.Take(line, 0, r)
	return told("Take", got, e)
}

// ungluesOf tells what unglues of a glued type.
func ungluesOf(g api.Term) system {
	var l system
	for _, b := range g.Sys {
		l = append(l, at(b.Face, b.Kids[1]))
	}
	return l
}

// numbered tells a part's name by whether it is of the first branch.
func numbered(n int, part string) string {
	if n == 0 {
		return part
	}
	return "another " + part
}

// mergeModel tells what a composition in a glued type becomes, word by word.
func mergeModel(x api.Term) api.Term {
	g, b := x.Kids[0], x.Kids[1]
	h := comp(g.Kids[0], unglueOf(b, ungluesOf(g)...))
	for _, s := range x.Sys {
		further, e := systemUp(ungluesOf(g))
		h = grown(h, s.Face, unglueOf(s.Kids[0], told("es'", further, e)...))
	}
	for n, p := range g.Sys {
		function := fst(up(numbered(n, "e'"), p.Kids[1], 1))
		fill, e := build.Fill(p.Kids[0], b, x.Sys)
		h = grown(h, p.Face, app(function, told(numbered(n, "Fill"), fill, e)))
	}
	out := madeGlued(h)
	for _, p := range g.Sys {
		out = grown(out, p.Face, comp(p.Kids[0], b, x.Sys...))
	}
	return sound("all", out)
}

// systemUp lifts a system by which something is unglued.
func systemUp(l system) (system, api.Errno) { return systems.Lift(api.Unglue, l, 0, 1) }

// stays tells the branches of a line that stay.
func stays(g api.Term) system {
	var l system
	for _, b := range g.Sys {
		all, e := face.All(b.Face, 0)
		if told("All", all, e); len(all) > 0 {
			taken := take(comp(univ, univ, at(all, univ)), never)
			l = append(l, at(taken.Sys[0].Face, b.Kids...))
		}
	}
	return l
}

// carryModel tells what becomes of what is carried along a line of glued types, word by word.
func carryModel(x api.Term) api.Term {
	g, a, phi := x.Kids[0], x.Kids[1], x.R
	a0 := unglueOf(a, ungluesOf(take(g, never))...)
	stay := stays(g)
	var sys system
	if len(phi) > 0 {
		sys = append(sys, at(phi, up("a0'", a0, 1)))
	}
	for n, b := range stay {
		run, e := build.Run(b.Kids[0], phi, a)
		sys = append(sys, at(b.Face, app(fst(b.Kids[1]), told(numbered(n, "Run"), run, e))))
	}
	a1, e := build.Comp(g.Kids[0], a0, sys)
	told("Comp", a1, e)
	g1 := take(g, always)
	var ws []api.Term
	for n, b := range g1.Sys {
		ws = append(ws, wModel(n, b, g1.Kids[0], a1, a, phi, stay))
	}
	h := comp(g1.Kids[0], a1)
	if len(phi) > 0 {
		h = grown(h, phi, up("a1'", a1, 1))
	}
	out := madeGlued(h)
	for n, b := range g1.Sys {
		w := up(numbered(n, "w'"), ws[n], 1)
		path := ownPoint(snd(w), up("a1'", a1, 1), app(fst(up("e'", b.Kids[1], 1)), fst(w)))
		out.Kids[0] = grown(out.Kids[0], b.Face, path)
		out = grown(out, b.Face, fst(ws[n]))
	}
	return sound("all", out)
}

// wModel tells w of a branch at the end.
func wModel(n int, b api.Branch, end, a1, a api.Term, phi row, stay system) api.Term {
	c := app(snd(b.Kids[1]), a1)
	fiber, e := build.Fiber(b.Kids[0], end, fst(b.Kids[1]), a1)
	w := comp(told(numbered(n, "Fiber"), fiber, e), fst(c))
	p := func(x api.Term) api.Term {
		center, further := up(numbered(n, "c'"), c, 1), up(numbered(n, "x'"), x, 1)
		there := pair(further, plam(up(numbered(n, "a1''"), a1, 2)))
		return ownPoint(app(snd(center), there), fst(center), there)
	}
	if len(phi) > 0 {
		w = grown(w, phi, p(a))
	}
	for _, u := range stay {
		w = grown(w, u.Face, p(along(phi, u.Kids[0], a)))
	}
	return w
}

// rowOf tells which of the two a formed term becomes something by.
func rowOf(x api.Term) string {
	name := map[int]string{api.HComp: "Merge", api.Transp: "Carry"}[x.Kind]
	if name == "" || x.Kids[0].Kind != api.Glue {
		return ""
	}
	return name
}

// model tells what one of the two tells, and the part that is refused.
func model(name string, x api.Term) (want api.Term, part string, e api.Errno) {
	defer func() {
		if r, ok := recover().(refusal); ok {
			want, part, e = api.Term{}, r.part, r.e
		}
	}()
	sound("formed", x)
	switch {
	case rowOf(x) != name:
		return api.Term{}, "nothing", api.OK
	case name == "Merge":
		return mergeModel(x), name, api.OK
	}
	return carryModel(x), name, api.OK
}

// comer grows terms that mostly become something.
type comer struct{ *sample.Grower }

// grow tells one that may be in so many variables and dimensions, each part of which has about so many nodes.
func (c comer) grow(vars, dims, nodes int) api.Term {
	more := c.Below(2)
	some := func(d int) api.Term { return c.Term(vars, min(dims+d, api.MaxDims), 1+c.Below(nodes)) }
	g := glued(some(more))
	for range c.Below(4) {
		where := c.Row(min(dims+more, api.MaxDims), true)
		if more == 1 && c.Below(3) == 0 {
			// It is there at the line's end alone.
			where = own
		}
		g = grown(g, where, some(more), some(more))
	}
	if c.Below(20) == 0 {
		g = some(more)
	}
	if more == 1 {
		phi := c.Row(dims, true)
		return along([]row{never, phi, phi}[c.Below(3)], g, some(0))
	}
	h := comp(g, some(0))
	for range c.Below(4) {
		h = grown(h, c.Row(dims, true), some(1))
	}
	return h
}

// wide tells a formula of so many clauses with a literal of the dimension 0, of two further ones each.
func wide(clauses int, literal api.Clause) api.Term {
	return loops(sample.Least(sample.Met(shift(sample.Pairs(clauses), 0, 1), literal))...)
}

// tall tells a term that is so deep.
func tall(depth int) api.Term { return times(depth-1, univ, fst) }

// spoil tells a term, one part or two of which are something that is refused, or may be when it goes elsewhere.
func (c comer) spoil(x api.Term) api.Term {
	x = sample.Plain(x)
	for range 1 + c.Below(2) {
		c.spoilPart(&x, c.part(&x))
	}
	return x
}

func (c comer) spoilPart(x, part *api.Term) {
	switch c.Below(12) {
	case 0:
		*part = c.Far(*part)
	case 1:
		*part = c.Spoilt(*part)
	case 2, 3:
		*part = pair(*part, v(billion-3+c.Below(5)))
	case 4, 5:
		*part = pair(*part, loop([]int{19, 20, 21, 22, 23, 23}[c.Below(6)]))
	case 6:
		*part = pair(*part, wide(32+c.Below(4), both(uint32(c.Below(2)), uint32(c.Below(2)))))
	case 7, 8:
		*part = times(185+c.Below(15), *part, fst)
	case 9:
		*part = pair(*part, sample.Balanced([]int{500, 2000, 4000, 7000, 9000}[c.Below(5)]+c.Below(1000)))
	case 10, 11:
		c.spoilFace(x)
	}
}

// spoilFace changes a face of a term.
func (c comer) spoilFace(x *api.Term) {
	faces := []*row{&x.R}
	if x.Kind == api.HComp || c.Below(2) == 0 {
		for _, l := range []system{x.Sys, x.Kids[0].Sys} {
			for n := range l {
				faces = append(faces, &l[n].Face)
			}
		}
		faces = faces[min(1, len(faces)-1):]
	}
	if f := faces[c.Below(len(faces))]; f != &x.R || x.Kind == api.Transp {
		*f = []row{{pos(sample.Last)}, {pos(1 << 22)}, {neg(2), pos(sample.Last)}, sample.Pairs(64), {both(1, 1)}, shift(sample.Pairs(64), 0, 1)}[c.Below(6)]
	}
}

// part tells one of a term: a Kid, what stands in a branch, or a part of the glued type.
func (c comer) part(x *api.Term) *api.Term {
	all := []*api.Term{}
	add := func(y *api.Term) {
		for n := range y.Kids {
			all = append(all, &y.Kids[n])
		}
		for _, b := range y.Sys {
			for n := range b.Kids {
				all = append(all, &b.Kids[n])
			}
		}
	}
	add(x)
	if len(all) == 0 {
		return x
	}
	g := all[0]
	all = all[1:]
	add(g)
	if len(all) == 0 {
		return g
	}
	return all[c.Below(len(all))]
}

// P18.1 and P18.2 word by word, on terms of all sorts.
func TestByTheModel(t *testing.T) {
	refused, parts := map[string]map[api.Errno]int{"Merge": {}, "Carry": {}}, map[string]int{}
	for seed := range uint32(4000) {
		c := comer{sample.Grow(seed)}
		x := c.grow(c.Below(4), []int{0, 1, 2, 3, 4, 6, 9, 19, 20, 21, 22, 23, 24}[c.Below(13)], 1+c.Below(4))
		if c.Below(3) > 0 {
			x = c.spoil(x)
		}
		for name := range calls() {
			want, part, e := model(name, x)
			becomes(t, name, x, want, e)
			if part != "nothing" {
				refused[name][e]++
				parts[name+": "+part]++
			}
		}
		if t.Failed() {
			t.Fatalf("the seed %d", seed)
		}
	}
	for _, name := range []string{
		"Merge: formed", "Merge: es'", "Merge: e'", "Merge: Fill", "Merge: another e'", "Merge: another Fill", "Merge: all", "Merge: Merge",
		"Carry: formed", "Carry: a0'", "Carry: Run", "Carry: another Run", "Carry: Comp", "Carry: Fiber", "Carry: c'", "Carry: a1''", "Carry: another Fiber", "Carry: a1'", "Carry: w'", "Carry: another w'", "Carry: all", "Carry: Carry",
	} {
		if parts[name] < 3 {
			t.Errorf("%s was there %d times only", name, parts[name])
		}
	}
	for name, all := range refused {
		for _, e := range []api.Errno{api.ErrTerm, api.ErrDeep, api.ErrSize, api.ErrDims, api.ErrBig} {
			if all[e] < 3 {
				t.Errorf("%s was refused with %d only %d times", name, e, all[e])
			}
		}
	}
}
