package head

import (
	"testing"

	"hypercube/api"
	"hypercube/sample"
	"hypercube/step"
	"hypercube/term"
)

// rule is P22.1's, word by word: again and again, the first of three that changes the term.
type rule struct {
	defs []step.Def
	fuel int
	// What ended it.
	e api.Errno
	// How often each of the three changed a term.
	by [3]int
}

// model tells what Head tells.
func model(defs []step.Def, x api.Term, fuel int) (api.Term, int, api.Errno, [3]int) {
	if e := term.Formed(x); e != api.OK {
		return api.Term{}, 0, e, [3]int{}
	}
	if fuel < 0 || fuel > api.MaxFuel {
		return api.Term{}, 0, api.ErrArg, [3]int{}
	}
	r := rule{defs: defs, fuel: fuel}
	x, _ = r.all(x)
	if r.e != api.OK {
		return api.Term{}, 0, r.e, r.by
	}
	return x, r.fuel, api.OK, r.by
}

// all changes a term till nothing does, and tells whether anything did.
func (r *rule) all(x api.Term) (api.Term, bool) {
	changed := false
	for r.e == api.OK {
		next, ok := r.first(x)
		if !ok {
			break
		}
		x, changed = next, true
	}
	return x, changed
}

// first makes the first change that there is.
func (r *rule) first(x api.Term) (api.Term, bool) {
	if next, ok := r.step(x); ok || r.e != api.OK {
		return next, ok
	}
	if main := step.Main(x); main >= 0 {
		if next, ok := r.kid(x, main, 1); ok || r.e != api.OK {
			return next, ok
		}
	}
	if x.Kind == api.Transp && x.Kids[0].Kind == api.Susp {
		return r.kid(x, 1, 2)
	}
	return api.Term{}, false
}

func (r *rule) step(x api.Term) (api.Term, bool) {
	if r.e = term.Formed(x); r.e != api.OK {
		return api.Term{}, false
	}
	next, ok, e := step.Step(r.defs, x)
	if !ok && e == api.OK {
		return api.Term{}, false
	}
	if r.fuel == 0 {
		r.e = api.ErrFuel
		return api.Term{}, false
	}
	r.fuel, r.e = r.fuel-1, e
	r.by[0]++
	return next, ok
}

func (r *rule) kid(x api.Term, place, which int) (api.Term, bool) {
	head, ok := r.all(x.Kids[place])
	if !ok || r.e != api.OK {
		return api.Term{}, false
	}
	next := term.Copy(x)
	next.Kids[place] = head
	r.by[which]++
	return next, true
}

// veiled tells a term that may be where another one may be, and becomes it by a step, or some.
func veiled(g *sample.Grower, x api.Term, vars, dims int) api.Term {
	beside := func() api.Term { return g.Term(vars, dims, 1+g.Below(4)) }
	behind := func() api.Term { return g.Term(vars+1, dims, 1+g.Below(4)) }
	switch g.Below(13) {
	case 0:
		return of(api.The, x, beside())
	case 1:
		return fst(pair(x, beside()))
	case 2:
		return snd(pair(beside(), x))
	case 3:
		return app(lam(v(0)), x)
	case 4:
		return point(nil, beside(), x, beside())
	case 5:
		return point(always, beside(), beside(), x)
	case 6:
		return along(always, univ, x)
	case 7:
		return along(g.Row(dims, true), circle, x)
	case 8:
		return grown(of(api.Glue, beside()), always, x, beside())
	case 9:
		return of(api.Unglue, of(api.MkGlue, x))
	case 10:
		return of(api.CircleEl, behind(), x, beside(), base)
	case 11:
		return of(api.SuspEl, behind(), beside(), x, beside(), south)
	}
	return veiled(g, veiled(g, x, vars, dims), vars, dims)
}

// ways tells a term with veils over what leads to its head, now and then.
func ways(g *sample.Grower, x api.Term, vars, dims int) api.Term {
	x.Kids = append([]api.Term{}, x.Kids...)
	if main := step.Main(x); main >= 0 && g.Below(4) > 0 {
		behind := dims
		if x.Kind == api.Transp {
			behind++
		}
		x.Kids[main] = ways(g, x.Kids[main], vars, behind)
	}
	if x.Kind == api.Transp && g.Below(3) > 0 {
		x.Kids[1] = ways(g, x.Kids[1], vars, dims)
	}
	if g.Below(2) == 0 {
		x = veiled(g, x, vars, dims)
	}
	return x
}

// someTerm tells a term that is made to step, with how many variables and dimensions it may be in; now and then it stands within frames.
func someTerm(g *sample.Grower) sample.Scoped {
	vars, dims := g.Below(4), []int{0, 1, 2, 3, 4, 6, 9, 19, 21, 22, 23, 24}[g.Below(12)]
	x := g.Stepping(vars, dims, 1+g.Below(8))
	switch g.Below(6) {
	case 0:
		x = g.Term(vars, dims, 1+g.Below(20))
	case 1:
		if dims < api.MaxDims {
			x = along(g.Row(dims, true), susp(g.Term(vars, dims+1, 1+g.Below(5))), veiled(g, g.Term(vars, dims, 1+g.Below(5)), vars, dims))
		}
	}
	for range g.Below(4) {
		x = framed(g, ways(g, x, vars, dims), vars, dims)
	}
	return sample.Scoped{T: ways(g, x, vars, dims), Vars: vars, Dims: dims}
}

// framed tells a node that may be where its main Kid may be.
func framed(g *sample.Grower, x api.Term, vars, dims int) api.Term {
	beside := func() api.Term { return g.Term(vars, dims, 1+g.Below(4)) }
	behind := func() api.Term { return g.Term(vars+1, dims, 1+g.Below(4)) }
	switch g.Below(8) {
	case 0:
		return app(x, beside())
	case 1:
		return fst(x)
	case 2:
		return snd(x)
	case 3:
		return point(g.Row(dims, false), x, beside(), beside())
	case 4:
		return grown(of(api.Unglue, x), g.Row(dims, true), beside())
	case 5:
		return comp(x, beside())
	case 6:
		return of(api.CircleEl, behind(), beside(), beside(), x)
	}
	return of(api.SuspEl, behind(), beside(), beside(), beside(), x)
}

// grownDefs tells definitions of names that grown terms have, not all of them; some bodies are not right, some step.
func grownDefs(g *sample.Grower) []step.Def {
	var out []step.Def
	for range g.Below(6) {
		d := step.Def{Name: []string{"a", "Z", "_", "x0", "fst", "", "b"}[g.Below(7)], Body: g.Term(0, 0, 1+g.Below(12))}
		switch g.Below(6) {
		case 0:
			d.Body = g.Term(1, 1, 10)
		case 1:
			d.Body = g.Spoilt(d.Body)
		case 2:
			d.Body = veiled(g, d.Body, 0, 0)
		}
		out = append(out, d)
	}
	return out
}

// spoilt tells a term, some parts of which are something that is refused, or may be when it goes elsewhere.
func spoilt(g *sample.Grower, x api.Term) api.Term {
	x = sample.Plain(x)
	part := &x
	for range g.Below(5) {
		if main := step.Main(*part); main >= 0 && g.Below(3) > 0 {
			part = &part.Kids[main]
		} else if n := len(part.Kids); n > 0 {
			part = &part.Kids[g.Below(n)]
		}
	}
	switch g.Below(9) {
	case 0:
		*part = g.Far(*part)
	case 1:
		*part = g.Spoilt(*part)
	case 2:
		*part = pair(*part, v(billion-1+g.Below(3)))
	case 3:
		*part = pair(*part, loop(22+g.Below(2)))
	case 4, 5:
		*part = app(lam(times(60+g.Below(40), v(0), fst)), times(90+g.Below(50), *part, fst))
	case 6:
		*part = app(lam(of(api.The, *part, pair(v(0), v(0)))), sample.Balanced(8000+g.Below(3000)))
	default:
		*part = pair(lam(pair(v(0), v(1))), pair(v(0), *part))
	}
	return x
}

// P22.1 word by word, on terms of all sorts, with much fuel and with little.
func TestByTheModel(t *testing.T) {
	told, by, refused := map[int]int{}, [3]int{}, map[api.Errno]int{}
	for seed := range uint32(9000) {
		g := sample.Grow(seed)
		x := someTerm(g).T
		if g.Below(4) == 0 {
			x = spoilt(g, x)
		}
		defs := grownDefs(g)
		fuel := []int{0, 1, 2, 3, 5, 8, 13, 20, 30, -1}[g.Below(10)]
		want, left, e, ways := model(defs, x, fuel)
		heads(t, defs, x, fuel, want, left, e)
		if t.Failed() {
			t.Fatalf("the seed %d", seed)
		}
		for n, often := range ways {
			by[n] += min(often, 1)
		}
		if e == api.OK {
			told[min(fuel-left, 9)]++
		} else {
			refused[e]++
		}
	}
	for cost := range 10 {
		if told[cost] < 50 {
			t.Errorf("only %d heads at the cost %d", told[cost], cost)
		}
	}
	if by[0] < 3000 || by[1] < 1000 || by[2] < 100 {
		t.Errorf("the three changes: %v", by)
	}
	for e, least := range map[api.Errno]int{api.ErrFuel: 1000, api.ErrArg: 100, api.ErrTerm: 100, api.ErrDeep: 50, api.ErrSize: 10, api.ErrDims: 10} {
		if refused[e] < least {
			t.Errorf("%d was told only %d times", e, refused[e])
		}
	}
}
