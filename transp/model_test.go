package transp

import (
	"testing"

	"hypercube/api"
	"hypercube/build"
	"hypercube/dims"
	"hypercube/formula"
	"hypercube/glue"
	"hypercube/hit"
	"hypercube/lift"
	"hypercube/plug"
	"hypercube/sample"
	"hypercube/term"
)

// refusal is what a part is refused with, and which part it is: that ends all making.
type refusal struct {
	part string
	e    api.Errno
}

// told tells a part by its name, unless it is refused.
func told(part string, x api.Term, e api.Errno) api.Term {
	if e != api.OK {
		panic(refusal{part, e})
	}
	return x
}

// sound tells a term by a part's name, unless it is not formed.
func sound(part string, x api.Term) api.Term { return told(part, x, term.Formed(x)) }

// up tells a part under so many binders more.
func up(part string, x api.Term, vars, dims int) api.Term {
	got, e := lift.Both(x, vars, dims)
	return told(part, got, e)
}

// start tells what a line begins with.
func start(part string, x api.Term) api.Term {
	got, e := dims.Take(x, 0, never)
	return told(part, got, e)
}

// swapModel tells a term with two dimensions exchanged, word by word.
func swapModel(x api.Term) api.Term {
	apart, e := lift.Dims(x, 2, 1)
	told("Dims", apart, e)
	got, e := dims.Take(apart, 0, row{pos(2)})
	return told("Take", got, e)
}

// functionModel tells what a function becomes, word by word.
func functionModel(phi row, l, a api.Term) api.Term {
	w, e := build.Back(up("A^1", l.Kids[0], 1, 0), phi, v(0))
	told("Back", w, e)
	b, e := lift.Vars(l.Kids[1], 1, 1)
	told("Vars", b, e)
	in, e := plug.At(b, 0, w)
	told("At", in, e)
	return lam(along(phi, in, app(up("a^1", a, 1, 0), start("w(0)", w))))
}

// pairModel tells what a pair becomes.
func pairModel(phi row, l, a api.Term) api.Term {
	run, e := build.Run(l.Kids[0], phi, fst(a))
	told("Run", run, e)
	in, e := plug.At(l.Kids[1], 0, run)
	told("At", in, e)
	return pair(along(phi, l.Kids[0], fst(a)), along(phi, in, snd(a)))
}

// pathModel tells what a path becomes.
func pathModel(phi row, l, a api.Term) api.Term {
	u0, v0 := start("u(0)", l.Kids[1]), start("v(0)", l.Kids[2])
	line := swapModel(l.Kids[0])
	first := point(own, up("a'", a, 0, 1), up("u(0)'", u0, 0, 1), up("v(0)'", v0, 0, 1))
	var sys system
	if len(phi) > 0 {
		further, e := formula.Lift(phi, 0, 1)
		told("phi'", api.Term{}, e)
		sys = append(sys, at(further, point(row{pos(2)}, up("a''", a, 0, 2), up("u(0)''", u0, 0, 2), up("v(0)''", v0, 0, 2))))
	}
	for n, end := range l.Kids[1:] {
		further, e := lift.Dims(end, 1, 1)
		sys = append(sys, at([]row{{neg(1)}, own}[n], told([]string{"u", "v"}[n], further, e)))
	}
	got, e := build.Comp(line, first, sys)
	return plam(told("Comp", got, e))
}

// model tells what Step tells, by which kind of lines, and the part that is refused.
func model(x api.Term) (want api.Term, kind int, part string, e api.Errno) {
	defer func() {
		if r, ok := recover().(refusal); ok {
			want, part, e = api.Term{}, r.part, r.e
		}
	}()
	sound("formed", x)
	if x.Kind != api.Transp {
		return api.Term{}, 0, "nothing", api.OK
	}
	phi, l, a := x.R, x.Kids[0], x.Kids[1]
	kind = l.Kind
	switch kind {
	case api.Univ, api.Circle:
		want = a
	case api.Pi:
		want = functionModel(phi, l, a)
	case api.Sigma:
		want = pairModel(phi, l, a)
	case api.Path:
		want = pathModel(phi, l, a)
	case api.Susp:
		want, _, e = hit.Carry(x)
		return told("Carry", want, e), kind, "made", e
	case api.Glue:
		want, _, e = glue.Carry(x)
		return told("Carry", want, e), kind, "made", e
	default:
		return api.Term{}, 0, "nothing", api.OK
	}
	return sound("all", want), kind, "made", api.OK
}

// comer grows terms that mostly become something.
type comer struct{ *sample.Grower }

// grow tells one that may be in so many variables and dimensions, each part of which has about so many nodes.
func (c comer) grow(vars, dims, nodes int) api.Term {
	some := func(v, d int) api.Term { return c.Term(vars+v, min(dims+d, api.MaxDims), 1+c.Below(nodes)) }
	l := some(0, 1)
	a := some(0, 0)
	switch c.Below(14) {
	case 0:
		l = []api.Term{univ, circle}[c.Below(2)]
	case 1, 2, 3, 4:
		l = pi(some(0, 1), some(1, 1))
	case 5, 6, 7, 8:
		l = sigma(some(0, 1), some(1, 1))
	case 9, 10, 11:
		l = paths(some(0, 2), some(0, 1), some(0, 1))
	case 12:
		l = of(api.Susp, l)
		a = []api.Term{of(api.North), with(of(api.Merid, a), c.Row(dims, false)), comp(a, a, at(c.Row(dims, true), some(0, 1))), a}[c.Below(4)]
	case 13:
		l = having(api.Glue, l, at(c.Row(min(dims+1, api.MaxDims), true), some(0, 1), some(0, 1)))
	}
	phi := c.Row(dims, true)
	return along([]row{never, phi, phi}[c.Below(3)], l, a)
}

// spoil tells a term, one part or two of which are something that is refused, or may be when it goes elsewhere.
func (c comer) spoil(x api.Term) api.Term {
	x = sample.Plain(x)
	for range 1 + c.Below(2) {
		c.spoilPart(&x, c.part(&x))
	}
	return x
}

func (c comer) spoilPart(x, part *api.Term) {
	switch c.Below(14) {
	case 0:
		*part = c.Far(*part)
	case 1:
		*part = c.Spoilt(*part)
	case 2, 3:
		*part = pair(*part, v(billion-2+c.Below(4)))
	case 4, 5:
		*part = pair(*part, loop([]int{20, 21, 22, 23, 23}[c.Below(5)]))
	case 6:
		*part = pair(*part, wide(32+c.Below(3), []api.Clause{pos(1), neg(1), pos(2)}[c.Below(3)]))
	case 7, 8:
		*part = times(185+c.Below(15), *part, fst)
	case 9:
		*part = pair(*part, sample.Balanced([]int{500, 4000, 6700, 9500}[c.Below(4)]+c.Below(500)))
	case 10:
		if x.Kind == api.Transp {
			x.R = []row{{pos(sample.Last)}, {pos(1 << 22)}, {pos(1 << 21)}, sample.Pairs(64), {both(1, 1)}, shift(sample.Pairs(64), 0, 1)}[c.Below(6)]
		}
	case 11:
		*part = grown(having(api.MkGlue, *part), own, []api.Term{v(billion + c.Below(2)), loop(22 + c.Below(2))}[c.Below(2)])
	case 12:
		*part = pair(times(21+c.Below(2), loop(21+c.Below(3)), plam), *part)
	case 13:
		*part = pair(lam(lam(pair(v(2), v(1)))), plam(plam(pair(v(0), *part))))
	}
}

// part tells one of a term: what is carried, or a part of the line.
func (c comer) part(x *api.Term) *api.Term {
	if x.Kind != api.Transp || len(x.Kids) != 2 {
		return x
	}
	line := &x.Kids[0]
	all := []*api.Term{&x.Kids[1], line}
	for n := range line.Kids {
		all = append(all, &line.Kids[n], &line.Kids[n])
	}
	if len(all) > 2 {
		all = append(all[:1], all[2:]...)
	}
	return all[c.Below(len(all))]
}

// P19.2 word by word, on terms of all sorts.
func TestByTheModel(t *testing.T) {
	refused, parts := map[int]map[api.Errno]int{}, map[int]map[string]int{}
	for _, kind := range []int{0, api.Univ, api.Circle, api.Pi, api.Sigma, api.Path, api.Susp, api.Glue} {
		refused[kind], parts[kind] = map[api.Errno]int{}, map[string]int{}
	}
	for seed := range uint32(10000) {
		c := comer{sample.Grow(seed)}
		x := c.grow(c.Below(4), []int{0, 1, 2, 3, 4, 6, 9, 19, 20, 21, 22, 23, 24}[c.Below(13)], 1+c.Below(12))
		if c.Below(4) > 0 {
			x = c.spoil(x)
		}
		want, kind, part, e := model(x)
		becomes(t, x, want, e)
		if t.Failed() {
			t.Fatalf("the seed %d: %s", seed, part)
		}
		parts[kind][part]++
		refused[kind][e]++
	}
	for kind, names := range map[int][]string{
		0: {"formed", "nothing"}, api.Univ: {"made"}, api.Circle: {"made"}, api.Susp: {"Carry", "made"}, api.Glue: {"Carry", "made"},
		api.Pi: {"A^1", "Back", "Vars", "At", "a^1", "all", "made"}, api.Sigma: {"Run", "At", "all", "made"},
		api.Path: {"Dims", "Take", "a'", "u(0)'", "v(0)'", "phi'", "a''", "u(0)''", "v(0)''", "u", "v", "Comp", "all", "made"},
	} {
		for _, name := range names {
			if parts[kind][name] < 3 {
				t.Errorf("along the kind %d: %s was there %d times only", kind, name, parts[kind][name])
			}
		}
	}
	for _, kind := range []int{api.Pi, api.Sigma, api.Path} {
		for _, e := range []api.Errno{api.ErrTerm, api.ErrDeep, api.ErrSize, api.ErrDims, api.ErrBig} {
			if refused[kind][e] < 3 {
				t.Errorf("along the kind %d: refused with %d only %d times", kind, e, refused[kind][e])
			}
		}
	}
}

// swapped tells a row with two dimensions exchanged, the first of which is so many further in.
func swapped(r row, behind int) row {
	set := func(s uint32) uint32 {
		two := s >> behind & 3
		return s&^(3<<behind) | (two>>1|two<<1&3)<<behind
	}
	var out row
	for _, c := range r {
		out = append(out, both(set(c.Pos), set(c.Neg)))
	}
	return sample.Least(out)
}

// exchanged tells a term with the dimensions 0 and 1 exchanged, node by node; branches that never are go.
func exchanged(x api.Term, behind int) api.Term {
	form := sample.Forms()[x.Kind]
	kids := func(l []api.Term, binds string) []api.Term {
		var out []api.Term
		for k, y := range l {
			_, inside := sample.Inside(binds[k], 0, behind)
			out = append(out, exchanged(y, inside))
		}
		return out
	}
	out := api.Term{Kind: x.Kind, N: x.N, Name: x.Name, R: swapped(x.R, behind), Kids: kids(x.Kids, form.Kids)}
	for _, b := range x.Sys {
		if len(b.Face) > 0 {
			out.Sys = append(out.Sys, at(swapped(b.Face, behind), kids(b.Kids, form.Branch)...))
		}
	}
	return out
}

// P19.1, on terms of all sorts: what is told by another road, and what is refused word by word.
func TestSwapByTheModel(t *testing.T) {
	changed, refused := 0, map[api.Errno]int{}
	for seed, x := range sample.GrownTerms(4000) {
		want := exchanged(x.T, 0)
		swaps(t, x.T, want, api.OK)
		if !term.Same(want, x.T) {
			changed++
		}
		c := comer{sample.Grow(uint32(seed))}
		bad := sample.Plain(x.T)
		c.spoilPart(&bad, &bad)
		want, e := func() (want api.Term, e api.Errno) {
			defer func() {
				if r, ok := recover().(refusal); ok {
					want, e = api.Term{}, r.e
				}
			}()
			return swapModel(sound("formed", bad)), api.OK
		}()
		swaps(t, bad, want, e)
		refused[e]++
		if t.Failed() {
			t.Fatalf("the seed %d", seed)
		}
	}
	if changed < 1000 {
		t.Errorf("only %d were changed", changed)
	}
	for _, e := range []api.Errno{api.OK, api.ErrTerm, api.ErrDeep, api.ErrDims} {
		if refused[e] < 50 {
			t.Errorf("refused with %d only %d times", e, refused[e])
		}
	}
}
