package scope

import (
	"hypercube/api"
	"hypercube/face"
	"hypercube/tree"
)

// call tells the term of a word with just the arguments that it takes.
func (r *resolver) call(w word, args []api.Tree) api.Term {
	out := api.Term{Kind: w.kind}
	for k, as := range w.takes {
		switch as {
		case aTerm:
			out.Kids = append(out.Kids, r.term(args[k]))
		case aLine:
			out.Kids = append(out.Kids, r.single(args[k], tree.PLam))
		case aBinder:
			out.Kids = append(out.Kids, r.single(args[k], tree.Lam))
		case aFace:
			out.R = r.joined(args[k])
		default:
			out.Sys = r.system(args[k], as)
		}
	}
	return out
}

// bindsOne tells whether a tree is of a kind, with one Name: a line, if the kind is PLam; a binder, if it is Lam.
func bindsOne(t api.Tree, kind int) bool { return t.Kind == kind && len(t.Names) == 1 }

// single tells the term behind the one Name of a line or a binder.
func (r *resolver) single(t api.Tree, kind int) api.Term {
	if !bindsOne(t, kind) {
		giveUp(t, api.ErrForm)
	}
	return r.body(t)
}

// elems tells the Elems of a Box, each of which is asked for its form when it is come to: what stands in one ahead of it is refused first.
func elems(box api.Tree, as argument) func(yield func(api.Tree) bool) {
	if box.Kind != tree.Box {
		giveUp(box, api.ErrForm)
	}
	return func(yield func(api.Tree) bool) {
		for _, t := range box.Kids {
			if !isElem(t, as) {
				giveUp(t, api.ErrForm)
			}
			if !yield(t) {
				return
			}
		}
	}
}

// isElem tells whether an Elem has the parts that are asked for.
func isElem(t api.Tree, as argument) bool {
	if as == aFace {
		return len(t.Kids) == 1
	}
	if len(t.Kids) != 2 {
		return false
	}
	switch as {
	case aLines:
		return bindsOne(t.Kids[1], tree.PLam)
	case aPairs:
		return t.Kids[1].Kind == tree.Pair
	}
	return true
}

// joined tells the face of a Box of faces.
func (r *resolver) joined(box api.Tree) []api.Clause {
	var out []api.Clause
	for t := range elems(box, aFace) {
		var e api.Errno
		if out, e = face.Join(out, r.face(t.Kids[0])); e != api.OK {
			giveUp(box, e)
		}
	}
	return out
}

// system tells the branches of a Box.
func (r *resolver) system(box api.Tree, as argument) []api.Branch {
	var out []api.Branch
	for t := range elems(box, as) {
		out = append(out, api.Branch{Face: r.face(t.Kids[0]), Kids: r.branchKids(t.Kids[1], as)})
	}
	return out
}

// branchKids tells what stands in a branch.
func (r *resolver) branchKids(t api.Tree, as argument) []api.Term {
	switch as {
	case aLines:
		return []api.Term{r.body(t)}
	case aPairs:
		return []api.Term{r.term(t.Kids[0]), r.term(t.Kids[1])}
	}
	return []api.Term{r.term(t)}
}
