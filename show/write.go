package show

import (
	"strings"

	"hypercube/api"
	"hypercube/tree"
)

// place is where a part stands. The further on a place is, the fewer kinds stand there without brackets.
type place int

const (
	inTerm  place = iota
	inFront       // ahead of an arrow, where an Ann of a Name would be read as a binder
	inApp
	inAtom
	inJoin
	inMeet
	inDim
)

// lastPlace tells the last place in which a kind stands without brackets. A Name is both an atom and a dim: it needs none anywhere.
func lastPlace(kind int) place {
	switch kind {
	case tree.Lam, tree.PLam, tree.Pi, tree.Sigma:
		return inTerm
	case tree.App, tree.At:
		return inApp
	case tree.Pair, tree.Ann, tree.Box:
		return inAtom
	case tree.Or:
		return inJoin
	case tree.And:
		return inMeet
	}
	return inDim
}

func needsBrackets(t api.Tree, in place) bool {
	looksBinding := t.Kind == tree.Ann && t.Kids[0].Kind == tree.Name
	return lastPlace(t.Kind) < in || in == inFront && looksBinding
}

// writer is a text that grows until it is too long. What it is given are trees that may be.
type writer struct{ text strings.Builder }

func (w *writer) tooLong() bool { return w.text.Len() > api.MaxText }

// told tells the text.
func (w *writer) told() (string, api.Errno) {
	if w.tooLong() {
		return "", api.ErrBig
	}
	return w.text.String(), api.OK
}

// put writes texts, one behind the other, but no more than one byte beyond the greatest length: that is enough to be too long.
func (w *writer) put(texts ...string) {
	for _, s := range texts {
		room := api.MaxText + 1 - w.text.Len()
		w.text.WriteString(s[:min(len(s), room)])
	}
}

// part writes a tree where it stands. Once the text is too long nothing changes that any more, so the tree's parts are not gone through.
func (w *writer) part(t api.Tree, in place) {
	switch {
	case w.tooLong():
	case needsBrackets(t, in):
		w.put("(")
		w.line(t)
		w.put(")")
	default:
		w.line(t)
	}
}

// two writes two parts with a text between them.
func (w *writer) two(parts []api.Tree, first place, between string, second place) {
	w.part(parts[0], first)
	w.put(between)
	w.part(parts[1], second)
}

func (w *writer) decl(t api.Tree) {
	w.put(t.Name, " : ")
	w.two(t.Kids, inTerm, " = ", inTerm)
	w.put(";\n")
}

// line writes a term or a dim by its line of the grammar.
func (w *writer) line(t api.Tree) {
	switch t.Kind {
	case tree.Name, tree.Digit:
		w.put(t.Name)
	case tree.Lam:
		w.binds(`\`, t, ". ")
	case tree.PLam:
		w.binds("<", t, "> ")
	case tree.Pi:
		w.arrow(t, " -> ")
	case tree.Sigma:
		w.arrow(t, " * ")
	case tree.App:
		w.two(t.Kids, inApp, " ", inAtom)
	case tree.At:
		w.two(t.Kids, inApp, " @ ", inDim)
	case tree.Pair:
		w.atom(t, ", ")
	case tree.Ann:
		w.atom(t, " : ")
	case tree.Box:
		w.box(t)
	case tree.Or:
		w.two(t.Kids, inJoin, ` \/ `, inMeet)
	case tree.And:
		w.two(t.Kids, inMeet, ` /\ `, inDim)
	case tree.Not:
		w.put("~")
		w.part(t.Kids[0], inDim)
	}
}

// binds writes names between two signs, and a term.
func (w *writer) binds(from string, t api.Tree, to string) {
	w.put(from, t.Names[0])
	for _, name := range t.Names[1:] {
		w.put(" ", name)
	}
	w.put(to)
	w.part(t.Kids[0], inTerm)
}

func (w *writer) arrow(t api.Tree, sign string) {
	if len(t.Names) == 0 {
		w.two(t.Kids, inFront, sign, inTerm)
		return
	}
	w.put("(", t.Names[0], " : ")
	w.part(t.Kids[0], inTerm)
	w.put(")", sign)
	w.part(t.Kids[1], inTerm)
}

// atom writes two terms in the brackets that are their line's own.
func (w *writer) atom(t api.Tree, between string) {
	w.put("(")
	w.two(t.Kids, inTerm, between, inTerm)
	w.put(")")
}

func (w *writer) box(t api.Tree) {
	w.put("[")
	for k, elem := range t.Kids {
		if k > 0 {
			w.put(", ")
		}
		w.elem(elem)
	}
	w.put("]")
}

func (w *writer) elem(t api.Tree) {
	w.face(t.Kids[0])
	if len(t.Kids) == 2 {
		w.put(" -> ")
		w.part(t.Kids[1], inTerm)
	}
}

func (w *writer) face(t api.Tree) {
	if len(t.Kids) == 0 {
		w.put("1")
	}
	for _, eq := range t.Kids {
		w.put("(", eq.Name, "=", eq.Names[0], ")")
	}
}
