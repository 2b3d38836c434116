package sample

import "hypercube/api"

// Stepping tells one that may be in so many variables and dimensions, of parts of about so many nodes each: its own node mostly steps.
func (g *Grower) Stepping(vars, dims, nodes int) api.Term {
	kinds := []int{
		api.App, api.Fst, api.Snd, api.PApp, api.Loop, api.Merid, api.CircleEl, api.CircleEl, api.SuspEl, api.SuspEl, api.The, api.Const,
		api.HComp, api.HComp, api.HComp, api.Glue, api.MkGlue, api.Unglue, api.Transp, api.Transp, api.Transp,
	}
	kind := kinds[g.Below(len(kinds))]
	if dims == api.MaxDims && kind == api.Transp {
		kind = api.App
	}
	t := g.ofKind(kind, vars, dims, 3*nodes)
	g.end(&t)
	g.join(&t, vars, dims, nodes)
	return t
}

// end makes a node's formula 0 or 1, or one of its faces always, now and then.
func (g *Grower) end(t *api.Term) {
	ends := [][]api.Clause{nil, {{}}}
	switch t.Kind {
	case api.Loop, api.Merid, api.PApp:
		if g.Below(2) == 0 {
			t.R = ends[g.Below(2)]
		}
	case api.Transp:
		if g.Below(6) == 0 {
			t.R = ends[1]
		}
	case api.HComp, api.Glue, api.MkGlue, api.Unglue:
		if n := len(t.Sys); n > 0 && g.Below(3) == 0 {
			t.Sys[g.Below(n)].Face = ends[1]
		}
	}
}

// join makes the Kid that a node steps by of a kind that it steps with.
func (g *Grower) join(t *api.Term, vars, dims, nodes int) {
	at, d := 0, dims
	var with []int
	switch t.Kind {
	case api.App:
		with = []int{api.Lam}
	case api.Fst, api.Snd:
		with = []int{api.Pair}
	case api.PApp:
		with = []int{api.PLam, api.PLam, api.Var}
	case api.Unglue:
		with = []int{api.MkGlue}
	case api.CircleEl:
		at, with = 3, []int{api.Base, api.Loop, api.HComp, api.HComp}
	case api.SuspEl:
		at, with = 4, []int{api.North, api.South, api.Merid, api.HComp, api.HComp}
	case api.HComp:
		with = []int{api.Pi, api.Sigma, api.Path, api.Univ, api.Glue}
	case api.Transp:
		d, with = dims+1, []int{api.Univ, api.Circle, api.Pi, api.Sigma, api.Path, api.Susp, api.Susp, api.Glue}
		if kind := []int{api.North, api.South, api.Merid, api.HComp, api.Base}[g.Below(5)]; g.Below(2) == 0 {
			t.Kids[1] = g.ofKind(kind, vars, dims, nodes)
		}
	default:
		return
	}
	kind := with[g.Below(len(with))]
	if kind == api.Var && vars == 0 || g.Below(10) == 0 || !g.binds(g.forms[kind].Kids, d) {
		return
	}
	t.Kids[at] = g.ofKind(kind, vars, d, nodes)
}
