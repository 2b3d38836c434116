package step

import (
	"testing"

	"hypercube/api"
	"hypercube/beta"
	"hypercube/hcomp"
	"hypercube/hit"
	"hypercube/sample"
	"hypercube/term"
	"hypercube/transp"
)

// model tells what Step tells, word by word, and which of the steps it is: none is no step.
func model(defs []Def, x api.Term) (want api.Term, which string, e api.Errno) {
	if e := term.Formed(x); e != api.OK {
		return api.Term{}, "Formed", e
	}
	for n, step := range []func(api.Term) (api.Term, bool, api.Errno){beta.Step, hit.Elim, transp.Step, hcomp.Step} {
		got, ok, e := step(x)
		if ok || e != api.OK {
			return got, []string{"beta", "hit", "transp", "hcomp"}[n], e
		}
	}
	if x.Kind != api.Const {
		return api.Term{}, "none", api.OK
	}
	for _, d := range defs {
		if d.Name != x.Name {
			continue
		}
		if term.Right(d.Body, 0, 0) != api.OK {
			return api.Term{}, "not right", api.OK
		}
		return d.Body, "defined", api.OK
	}
	return api.Term{}, "no name", api.OK
}

// grownDefs tells definitions of names that grown terms have, not all of them; some bodies are not right.
func grownDefs(g *sample.Grower) []Def {
	var out []Def
	for range g.Below(6) {
		d := Def{[]string{"a", "Z", "_", "x0", "fst", "", "b"}[g.Below(7)], g.Term(0, 0, 1+g.Below(20))}
		switch g.Below(6) {
		case 0:
			d.Body = g.Term(1, 1, 10)
		case 1:
			d.Body = g.Spoilt(d.Body)
		}
		out = append(out, d)
	}
	return out
}

// spoilt tells a term, some parts of which are something that is refused, or may be when it goes elsewhere.
func spoilt(g *sample.Grower, x api.Term) api.Term {
	x = sample.Plain(x)
	for range 1 + g.Below(3) {
		part := &x
		for range 1 + g.Below(2) {
			all := part.Kids
			if n := len(part.Sys); n > 0 && g.Below(2) == 0 {
				all = part.Sys[g.Below(n)].Kids
			}
			if n := len(all); n > 0 {
				part = &all[g.Below(n)]
			}
		}
		spoilPart(g, part)
	}
	return x
}

func spoilPart(g *sample.Grower, part *api.Term) {
	switch g.Below(12) {
	case 0:
		*part = g.Far(*part)
	case 1:
		*part = g.Spoilt(*part)
	case 2, 3:
		*part = pair(*part, v(billion-1+g.Below(3)))
	case 4:
		*part = pair(*part, loop(22+g.Below(2)))
	case 5, 6:
		*part = pair(*part, wide(31+g.Below(4), []api.Clause{pos(1), neg(1), pos(2)}[g.Below(3)]))
	case 7, 8:
		*part = times(90+g.Below(107), *part, fst)
	case 9:
		*part = pair(*part, sample.Balanced(5000+g.Below(5000)))
	case 10, 11:
		*part = pair(lam(pair(v(0), v(1))), pair(v(0), *part))
	}
}

// P21.1 word by word, on terms of all sorts.
func TestByTheModel(t *testing.T) {
	told, refused := map[string]int{}, map[string]map[api.Errno]int{"Formed": {}, "beta": {}, "hit": {}, "transp": {}, "hcomp": {}}
	for seed := range uint32(15000) {
		g := sample.Grow(seed)
		x := g.Stepping(g.Below(4), []int{0, 1, 2, 3, 4, 6, 9, 19, 21, 22, 23, 24}[g.Below(12)], 1+g.Below(12))
		if g.Below(2) == 0 {
			x = spoilt(g, x)
		}
		defs := grownDefs(g)
		want, which, e := model(defs, x)
		steps(t, defs, x, want, e)
		if t.Failed() {
			t.Fatalf("the seed %d: %s", seed, which)
		}
		if e == api.OK {
			told[which]++
		} else {
			refused[which][e]++
		}
	}
	for _, which := range []string{"beta", "hit", "transp", "hcomp", "none", "not right", "defined", "no name"} {
		if told[which] < 25 {
			t.Errorf("%s was there %d times only", which, told[which])
		}
	}
	// (What each of them is refused with stands by hand in TestRefusedByALayer.)
	for which, l := range refused {
		sum := 0
		for _, n := range l {
			sum += n
		}
		if least := map[string]int{"Formed": 500, "beta": 5, "hit": 30, "transp": 30, "hcomp": 30}[which]; sum < least {
			t.Errorf("%s was refused only %d times", which, sum)
		}
	}
}

// P21.1 on terms of all kinds, as they grow: few step.
func TestOnGrownTerms(t *testing.T) {
	told := map[string]int{}
	for seed, x := range sample.GrownTerms(4000) {
		defs := grownDefs(sample.Grow(uint32(seed)))
		want, which, e := model(defs, x.T)
		steps(t, defs, x.T, want, e)
		if t.Failed() {
			t.Fatalf("the seed %d: %s", seed, which)
		}
		told[which]++
	}
	if told["none"] < 1000 || told["none"] > 3900 {
		t.Errorf("too few to tell: %v", told)
	}
}
