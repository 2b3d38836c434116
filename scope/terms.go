package scope

import (
	"slices"

	"hypercube/api"
	"hypercube/tree"
)

func (r *resolver) term(t api.Tree) api.Term {
	switch t.Kind {
	case tree.Name, tree.App:
		return r.applied(t)
	case tree.Lam:
		return inAll(api.Lam, len(t.Names), r.body(t))
	case tree.PLam:
		return inAll(api.PLam, len(t.Names), r.body(t))
	case tree.Pi:
		return r.arrow(t, api.Pi)
	case tree.Sigma:
		return r.arrow(t, api.Sigma)
	case tree.At:
		return r.at(t)
	case tree.Pair:
		return two(api.Pair, r.term(t.Kids[0]), r.term(t.Kids[1]))
	case tree.Ann:
		return two(api.The, r.term(t.Kids[0]), r.term(t.Kids[1]))
	}
	giveUp(t, api.ErrForm) // a Box, which is an argument of some words alone
	return api.Term{}
}

// two tells a term of two parts.
func two(kind int, a, b api.Term) api.Term { return api.Term{Kind: kind, Kids: []api.Term{a, b}} }

// inAll tells a term in so many of a kind, one in the other.
func inAll(kind, times int, t api.Term) api.Term {
	for range times {
		t = api.Term{Kind: kind, Kids: []api.Term{t}}
	}
	return t
}

// body tells the term behind all Names of a Lam or a PLam.
func (r *resolver) body(t api.Tree) api.Term {
	if r.hasWord(t.Names) {
		giveUp(t, api.ErrForm)
	}
	if t.Kind == tree.Lam {
		return r.behind(&r.vars, t.Names, t.Kids[0])
	}
	if len(t.Names) > api.MaxDims-r.dims.count {
		giveUp(t, api.ErrDims)
	}
	return r.behind(&r.dims, t.Names, t.Kids[0])
}

// behind tells the term of a tree behind names.
func (r *resolver) behind(n *names, l []string, t api.Tree) api.Term {
	n.bind(l...)
	out := r.term(t)
	n.release(l...)
	return out
}

func (r *resolver) arrow(t api.Tree, kind int) api.Term {
	if r.hasWord(t.Names) {
		giveUp(t, api.ErrForm)
	}
	name := noName
	if len(t.Names) > 0 {
		name = t.Names[0]
	}
	return two(kind, r.term(t.Kids[0]), r.behind(&r.vars, []string{name}, t.Kids[1]))
}

// applied tells the term of a Name or an App: what stands ahead of all arguments, with those that it takes, if it is a word, applied to the others.
func (r *resolver) applied(t api.Tree) api.Term {
	first, args := spine(t)
	w, is := r.words[first.Name]
	if is && len(args) < len(w.takes) {
		giveUp(t, api.ErrForm)
	}
	if is && w.needsFormula() {
		giveUp(first, api.ErrForm)
	}
	var out api.Term
	switch {
	case is:
		out = r.call(w, args[:len(w.takes)])
	case first.Kind == tree.Name:
		out = r.named(first)
	default:
		out = r.term(first)
	}
	for _, a := range args[len(w.takes):] {
		out = two(api.App, out, r.term(a))
	}
	return out
}

// spine tells what is applied, and all that it is applied to: all Apps at once, as a word may stand below many of them. What is applied has a name only if it is a Name.
func spine(t api.Tree) (first api.Tree, args []api.Tree) {
	for t.Kind == tree.App {
		args = append(args, t.Kids[1])
		t = t.Kids[0]
	}
	slices.Reverse(args)
	return t, args
}

// named tells the variable or the constant of a name.
func (r *resolver) named(t api.Tree) api.Term {
	if n, found := r.vars.find(t.Name); found {
		return api.Term{Kind: api.Var, N: n}
	}
	if _, found := r.globals[t.Name]; !found {
		giveUp(t, api.ErrScope)
	}
	return api.Term{Kind: api.Const, Name: t.Name}
}

// at tells a term at a formula: the constructors of paths are such terms of their own, all others paths whose ends are not told yet.
func (r *resolver) at(t api.Tree) api.Term {
	first, args := spine(t.Kids[0])
	w := r.words[first.Name]
	var out api.Term
	if w.needsFormula() && len(args) == len(w.takes) {
		out = r.call(w, args)
	} else {
		ends := api.Term{Kind: api.Univ}
		out = api.Term{Kind: api.PApp, Kids: []api.Term{r.term(t.Kids[0]), ends, ends}}
	}
	out.R = r.formula(t.Kids[1])
	return out
}
