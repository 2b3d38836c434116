package tree

import (
	"strings"

	"hypercube/api"
)

// writer makes texts with the trees that they are read as: it follows the grammar's lines by numbers that are given.
type writer struct {
	numbers []uint32
	used    int
	text    strings.Builder
	tokens  []string
	begun   []begun
}

// begun is a term or a dim: where it begins, and on which level.
type begun struct{ at, level int }

// number tells the next number; once all are used, others of no interest.
func (w *writer) number() uint32 {
	w.used++
	if w.used > len(w.numbers) {
		return 0
	}
	return w.numbers[w.used-1] >> 3
}

// choice tells one of n.
func (w *writer) choice(n int) int { return int(w.number()) % n }

// gap writes what is let by.
func (w *writer) gap() {
	w.text.WriteString([]string{" ", " ", "  ", "\n", "\t", " -- c ) ;\n", "\r\n "}[w.choice(7)])
}

// sign writes a sign, and tells its place.
func (w *writer) sign(s string) int {
	w.gap()
	at := w.text.Len()
	w.text.WriteString(s)
	w.tokens = append(w.tokens, s)
	return at
}

// name writes a name, and tells it and its place.
func (w *writer) name() (string, int) {
	w.gap()
	at := w.text.Len()
	s := []string{"x", "i", "U", "f_1", "hcomp"}[w.choice(5)]
	w.text.WriteString(s)
	w.tokens = append(w.tokens, "NAME")
	return s, at
}

func (w *writer) names() []string {
	var out []string
	for range 1 + w.choice(3) {
		s, _ := w.name()
		out = append(out, s)
	}
	return out
}

// begin notes that what is written next begins on a level; the place is known once it is written.
func (w *writer) begin(level int) int {
	w.begun = append(w.begun, begun{level: level})
	return len(w.begun) - 1
}

func (w *writer) file(n int) []api.Tree {
	var out []api.Tree
	for range n {
		d := api.Tree{Kind: Decl}
		d.Name, d.At = w.name()
		w.sign(":")
		a := w.term(1, 5)
		w.sign("=")
		d.Kids = []api.Tree{a, w.term(1, 5)}
		w.sign(";")
		out = append(out, d)
	}
	return out
}

// term writes a term with about so many parts.
func (w *writer) term(level, size int) api.Tree {
	mark, start := w.begin(level), w.text.Len()
	out := w.termLine(level, size)
	w.begun[mark].at = firstToken(w.text.String(), start)
	return out
}

// firstToken tells where the first token behind a place is: the gap ahead of it is one of a few.
func firstToken(s string, at int) int {
	for {
		switch {
		case strings.HasPrefix(s[at:], "--"):
			at += strings.Index(s[at:], "\n") + 1
		case strings.ContainsRune(" \n\t\r", rune(s[at])):
			at++
		default:
			return at
		}
	}
}

func (w *writer) termLine(level, size int) api.Tree {
	if size <= 1 {
		return w.atom(level, 1)
	}
	switch w.choice(6) {
	case 0:
		at := w.sign(`\`)
		names := w.names()
		w.sign(".")
		return api.Tree{Kind: Lam, Names: names, Kids: []api.Tree{w.term(level+1, size-1)}, At: at}
	case 1:
		at := w.sign("<")
		names := w.names()
		w.sign(">")
		return api.Tree{Kind: PLam, Names: names, Kids: []api.Tree{w.term(level+1, size-1)}, At: at}
	case 2:
		at := w.sign("(")
		name, _ := w.name()
		w.sign(":")
		a := w.term(level+1, size/2)
		w.sign(")")
		kind := w.arrow()
		return api.Tree{Kind: kind, Names: []string{name}, Kids: []api.Tree{a, w.term(level+1, size/2)}, At: at}
	case 3, 4:
		first := len(w.tokens)
		a := w.app(level, size/2)
		// `(` NAME `:` .. `)` ahead of an arrow would be another line's.
		if a.Kind == Ann && strings.Join(w.tokens[first:first+3], " ") == "( NAME :" {
			return a
		}
		kind := w.arrow()
		return api.Tree{Kind: kind, Kids: []api.Tree{a, w.term(level+1, size/2)}, At: a.At}
	}
	return w.app(level, size)
}

func (w *writer) arrow() int {
	if w.choice(2) == 0 {
		w.sign("->")
		return Pi
	}
	w.sign("*")
	return Sigma
}

func (w *writer) app(level, size int) api.Tree {
	parts := 1 + w.choice(4)
	out := w.atom(level, size/parts)
	for range parts - 1 {
		if w.choice(3) == 0 {
			w.sign("@")
			out = api.Tree{Kind: At, Kids: []api.Tree{out, w.dim(level+1, size/parts)}, At: out.At}
		} else {
			out = api.Tree{Kind: App, Kids: []api.Tree{out, w.atom(level, size/parts)}, At: out.At}
		}
	}
	return out
}

func (w *writer) atom(level, size int) api.Tree {
	if size <= 1 {
		s, at := w.name()
		return api.Tree{Kind: Name, Name: s, At: at}
	}
	switch w.choice(5) {
	case 0:
		at := w.sign("(")
		a := w.term(level+1, size/2)
		w.sign(",")
		b := w.term(level+1, size/2)
		w.sign(")")
		return api.Tree{Kind: Pair, Kids: []api.Tree{a, b}, At: at}
	case 1:
		at := w.sign("(")
		a := w.term(level+1, size/2)
		w.sign(":")
		b := w.term(level+1, size/2)
		w.sign(")")
		return api.Tree{Kind: Ann, Kids: []api.Tree{a, b}, At: at}
	case 2:
		return w.box(level, size)
	}
	w.sign("(")
	out := w.term(level+1, size-1)
	w.sign(")")
	return out
}

func (w *writer) box(level, size int) api.Tree {
	out := api.Tree{Kind: Box, At: w.sign("[")}
	for k := range w.choice(4) {
		if k > 0 {
			w.sign(",")
		}
		f := w.face()
		elem := api.Tree{Kind: Elem, Kids: []api.Tree{f}, At: f.At}
		if w.choice(3) > 0 {
			w.sign("->")
			elem.Kids = append(elem.Kids, w.term(level+1, size/4))
		}
		out.Kids = append(out.Kids, elem)
	}
	w.sign("]")
	return out
}

func (w *writer) face() api.Tree {
	if w.choice(3) == 0 {
		return api.Tree{Kind: Face, At: w.sign("1")}
	}
	out := api.Tree{Kind: Face}
	for k := range 1 + w.choice(3) {
		at := w.sign("(")
		if k == 0 {
			out.At = at
		}
		name, _ := w.name()
		w.sign("=")
		digit := []string{"0", "1"}[w.choice(2)]
		w.sign(digit)
		w.sign(")")
		out.Kids = append(out.Kids, api.Tree{Kind: Eq, Name: name, Names: []string{digit}, At: at})
	}
	return out
}

// row writes parts with a sign between each two, and tells them as a tree that leans to the left.
func (w *writer) row(kind int, sign string, part func() api.Tree) api.Tree {
	out := part()
	for range w.choice(3) {
		w.sign(sign)
		out = api.Tree{Kind: kind, Kids: []api.Tree{out, part()}, At: out.At}
	}
	return out
}

func (w *writer) dim(level, size int) api.Tree {
	mark, start := w.begin(level), w.text.Len()
	out := w.dimLine(level, size)
	w.begun[mark].at = firstToken(w.text.String(), start)
	return out
}

func (w *writer) dimLine(level, size int) api.Tree {
	if size <= 1 {
		if n := w.choice(4); n < 2 {
			digit := []string{"0", "1"}[n]
			return api.Tree{Kind: Digit, Name: digit, At: w.sign(digit)}
		}
		s, at := w.name()
		return api.Tree{Kind: Name, Name: s, At: at}
	}
	if w.choice(3) == 0 {
		at := w.sign("~")
		return api.Tree{Kind: Not, Kids: []api.Tree{w.dim(level+1, size-1)}, At: at}
	}
	w.sign("(")
	out := w.row(Or, `\/`, func() api.Tree {
		return w.row(And, `/\`, func() api.Tree { return w.dim(level+1, size/4) })
	})
	w.sign(")")
	return out
}

// tooDeep tells the first place of what is on a level above the greatest, if there is one.
func (w *writer) tooDeep() (int, bool) {
	place, found := 0, false
	for _, b := range w.begun {
		if b.level > api.MaxDepth && (!found || b.at < place) {
			place, found = b.at, true
		}
	}
	return place, found
}
