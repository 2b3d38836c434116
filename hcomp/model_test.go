package hcomp

import (
	"testing"

	"hypercube/api"
	"hypercube/build"
	"hypercube/dims"
	"hypercube/formula"
	"hypercube/glue"
	"hypercube/lift"
	"hypercube/plug"
	"hypercube/sample"
	"hypercube/term"
)

// refusal is what a part is refused with, and which part it is: that ends all making.
type refusal struct {
	part string
	e    api.Errno
}

// told tells a part by its name, unless it is refused.
func told(part string, x api.Term, e api.Errno) api.Term {
	if e != api.OK {
		panic(refusal{part, e})
	}
	return x
}

// sound tells a term by a part's name, unless it is not formed.
func sound(part string, x api.Term) api.Term { return told(part, x, term.Formed(x)) }

// up tells a part under so many binders more.
func up(part string, x api.Term, vars, dims int) api.Term {
	got, e := lift.Both(x, vars, dims)
	return told(part, got, e)
}

// functionModel tells what a composition of functions becomes, word by word.
func functionModel(in, a api.Term, sys system) api.Term {
	h := comp(in.Kids[1], app(up("a^1", a, 1, 0), v(0)))
	for _, b := range sys {
		h.Sys = append(h.Sys, at(b.Face, app(up("u^1", b.Kids[0], 1, 0), v(0))))
	}
	return lam(h)
}

// pairModel tells what one of pairs becomes.
func pairModel(in, a api.Term, sys system) api.Term {
	var firsts, seconds system
	for _, b := range sys {
		firsts = append(firsts, at(b.Face, fst(b.Kids[0])))
		seconds = append(seconds, at(b.Face, snd(b.Kids[0])))
	}
	fill, e := build.Fill(in.Kids[0], fst(a), firsts)
	told("Fill", fill, e)
	line, e := plug.At(up("B'", in.Kids[1], 0, 1), 0, fill)
	told("At", line, e)
	second, e := build.Comp(line, snd(a), seconds)
	return pair(comp(in.Kids[0], fst(a), firsts...), told("Comp", second, e))
}

// pathModel tells what one of paths becomes.
func pathModel(in, a api.Term, sys system) api.Term {
	a1 := up("a'", a, 0, 1)
	l1 := up("l'", in.Kids[1], 0, 1)
	h := comp(in.Kids[0], point(own, a1, l1, up("r'", in.Kids[2], 0, 1)))
	for _, b := range sys {
		face, e := formula.Lift(b.Face, 0, 1)
		told("face'", api.Term{}, e)
		u, e := lift.Dims(b.Kids[0], 1, 1)
		told("u", u, e)
		l2 := up("l''", in.Kids[1], 0, 2)
		h.Sys = append(h.Sys, at(face, point(row{pos(2)}, u, l2, up("r''", in.Kids[2], 0, 2))))
	}
	l2 := up("l'' alone", in.Kids[1], 0, 2)
	h.Sys = append(h.Sys, at(row{neg(1)}, l2), at(own, up("r'' alone", in.Kids[2], 0, 2)))
	return plam(h)
}

// typeModel tells what one of types becomes.
func typeModel(_, a api.Term, sys system) api.Term {
	g := having(api.Glue, a)
	for n, b := range sys {
		end, e := dims.Take(b.Kids[0], 0, always)
		told("u at 1", end, e)
		name := []string{"Equiv", "later Equiv"}[min(n, 1)]
		equiv, e := build.Equiv(b.Kids[0], up("a'", a, 0, 1))
		g.Sys = append(g.Sys, at(b.Face, end, along(never, told(name, equiv, e), build.Id())))
	}
	return g
}

// model tells what Step tells, by which kind of types, and the part that is refused.
func model(x api.Term) (want api.Term, kind int, part string, e api.Errno) {
	defer func() {
		if r, ok := recover().(refusal); ok {
			want, part, e = api.Term{}, r.part, r.e
		}
	}()
	sound("formed", x)
	if x.Kind != api.HComp {
		return api.Term{}, 0, "nothing", api.OK
	}
	rules := map[int]func(in, a api.Term, sys system) api.Term{api.Pi: functionModel, api.Sigma: pairModel, api.Path: pathModel, api.Univ: typeModel}
	kind = x.Kids[0].Kind
	if kind == api.Glue {
		want, _, e = glue.Merge(x)
		return told("Merge", want, e), kind, "made", e
	}
	rule, there := rules[kind]
	if !there {
		return api.Term{}, 0, "nothing", api.OK
	}
	return sound("all", rule(x.Kids[0], x.Kids[1], x.Sys)), kind, "made", api.OK
}

// comer grows terms that mostly become something.
type comer struct{ *sample.Grower }

// grow tells one that may be in so many variables and dimensions, each part of which has about so many nodes.
func (c comer) grow(vars, dims, nodes int) api.Term {
	some := func(v, d int) api.Term { return c.Term(vars+v, min(dims+d, api.MaxDims), 1+c.Below(nodes)) }
	in := some(0, 0)
	switch c.Below(14) {
	case 1, 2, 3:
		in = pi(some(0, 0), some(1, 0))
	case 4, 5, 6:
		in = sigma(some(0, 0), some(1, 0))
	case 7, 8, 9:
		in = paths(some(0, 1), some(0, 0), some(0, 0))
	case 10, 11, 12:
		in = univ
	case 13:
		in = having(api.Glue, in, at(c.Row(dims, true), some(0, 0), some(0, 0)))
	}
	x := comp(in, some(0, 0))
	for range c.Below(4) {
		face := c.Row(dims, true)
		x.Sys = append(x.Sys, at([]row{never, face, face, face}[c.Below(4)], some(0, 1)))
	}
	return x
}

// spoil tells a term, one part or two of which are something that is refused, or may be when it goes elsewhere.
func (c comer) spoil(x api.Term) api.Term {
	x = sample.Plain(x)
	for range 1 + c.Below(2) {
		c.spoilPart(&x, c.part(&x))
	}
	return x
}

func (c comer) spoilPart(x, part *api.Term) {
	switch c.Below(14) {
	case 0:
		*part = c.Far(*part)
	case 1:
		*part = c.Spoilt(*part)
	case 2, 3:
		*part = pair(*part, v(billion-4+c.Below(6)))
	case 4, 5:
		*part = pair(*part, loop([]int{20, 21, 22, 22, 23, 23}[c.Below(6)]))
	case 6:
		*part = pair(*part, wide(32+c.Below(3), []api.Clause{pos(1), neg(1), pos(2)}[c.Below(3)]))
	case 7, 8:
		*part = times(185+c.Below(15), *part, fst)
	case 9:
		*part = pair(*part, sample.Balanced([]int{500, 2500, 3900, 6600, 9500}[c.Below(5)]+c.Below(500)))
	case 10:
		if n := len(x.Sys); n > 0 {
			x.Sys[c.Below(n)].Face = []row{{pos(sample.Last)}, {pos(1 << 22)}, {pos(1 << 21)}, sample.Pairs(64), {both(1, 1)}, shift(sample.Pairs(64), 0, 1)}[c.Below(6)]
		}
	case 11:
		*part = grown(having(api.MkGlue, *part), own, []api.Term{v(billion + c.Below(2)), loop(22 + c.Below(2))}[c.Below(2)])
	case 12:
		*part = pair(times(20+c.Below(3), loop(21+c.Below(3)), plam), *part)
	case 13:
		*part = pair(lam(lam(pair(v(2), v(1)))), plam(plam(pair(v(0), *part))))
	}
}

// part tells one of a term: what is composed, a branch's, or a part of the type.
func (c comer) part(x *api.Term) *api.Term {
	if x.Kind != api.HComp || len(x.Kids) != 2 {
		return x
	}
	in := &x.Kids[0]
	all := []*api.Term{&x.Kids[1]}
	for n := range in.Kids {
		all = append(all, &in.Kids[n], &in.Kids[n])
	}
	for _, b := range x.Sys {
		all = append(all, &b.Kids[0])
	}
	return all[c.Below(len(all))]
}

// P20.1 word by word, on terms of all sorts.
func TestByTheModel(t *testing.T) {
	refused, parts := map[int]map[api.Errno]int{}, map[int]map[string]int{}
	for _, kind := range []int{0, api.Pi, api.Sigma, api.Path, api.Univ, api.Glue} {
		refused[kind], parts[kind] = map[api.Errno]int{}, map[string]int{}
	}
	for seed := range uint32(6000) {
		c := comer{sample.Grow(seed)}
		x := c.grow(c.Below(4), []int{0, 1, 2, 3, 4, 6, 9, 19, 20, 21, 22, 23, 23}[c.Below(13)], 1+c.Below(12))
		if c.Below(4) > 0 {
			x = c.spoil(x)
		}
		want, kind, part, e := model(x)
		becomes(t, x, want, e)
		if t.Failed() {
			t.Fatalf("the seed %d: %s", seed, part)
		}
		parts[kind][part]++
		refused[kind][e]++
	}
	for kind, names := range map[int][]string{
		0: {"formed", "nothing"}, api.Glue: {"Merge", "made"}, api.Pi: {"a^1", "u^1", "all", "made"}, api.Sigma: {"Fill", "B'", "At", "Comp", "made"},
		api.Path: {"a'", "l'", "r'", "face'", "u", "l''", "r''", "l'' alone", "r'' alone", "all", "made"}, api.Univ: {"a'", "Equiv", "later Equiv", "all", "made"},
	} {
		for _, name := range names {
			if parts[kind][name] < 3 {
				t.Errorf("in the kind %d: %s was there %d times only", kind, name, parts[kind][name])
			}
		}
	}
	for kind, l := range map[int][]api.Errno{api.Pi: {api.ErrTerm, api.ErrDeep}, api.Sigma: {api.ErrTerm, api.ErrDeep, api.ErrSize, api.ErrDims, api.ErrBig}, api.Path: {api.ErrTerm, api.ErrDeep, api.ErrSize, api.ErrDims}, api.Univ: {api.ErrTerm, api.ErrDeep, api.ErrSize, api.ErrDims}} {
		for _, e := range l {
			if refused[kind][e] < 3 {
				t.Errorf("in the kind %d: refused with %d only %d times", kind, e, refused[kind][e])
			}
		}
	}
}
