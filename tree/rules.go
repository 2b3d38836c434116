package tree

import (
	"hypercube/api"
	"hypercube/lex"
)

// The rules of the grammar: each passes what it reads. Those of terms and dims are told the level on which it stands.

// file goes on to the end of the text, so that whatever begins no decl is refused by decl itself.
func (r *reader) file() []api.Tree {
	var out []api.Tree
	for r.tokens[r.next].Kind != lex.End {
		out = append(out, r.decl())
	}
	return out
}

func (r *reader) decl() api.Tree {
	out := api.Tree{Kind: Decl, At: r.at()}
	out.Name = r.name()
	r.must(":")
	out.Kids = append(out.Kids, r.term(1))
	r.must("=")
	out.Kids = append(out.Kids, r.term(1))
	r.must(";")
	return out
}

// single is a term behind which there is no more.
func (r *reader) single() api.Tree {
	out := r.term(1)
	if r.tokens[r.next].Kind != lex.End {
		r.wrong(api.ErrForm)
	}
	return out
}

func (r *reader) term(level int) api.Tree {
	r.enter(level, `\`, "<", "(", "[")
	switch {
	case r.sees(`\`):
		return r.binds(Lam, `\`, ".", level)
	case r.sees("<"):
		return r.binds(PLam, "<", ">", level)
	case r.seesBinder():
		return r.binder(level)
	}
	out := r.app(level)
	if kind, found := r.arrow(); found {
		return two(kind, out, r.term(level+1))
	}
	return out
}

// binds is names between two signs, and a term.
func (r *reader) binds(kind int, from, to string, level int) api.Tree {
	out := api.Tree{Kind: kind, At: r.at()}
	r.must(from)
	out.Names = r.names()
	r.must(to)
	out.Kids = []api.Tree{r.term(level + 1)}
	return out
}

// binder is a Pi or a Sigma with a name: that an arrow is there was seen beforehand.
func (r *reader) binder(level int) api.Tree {
	at := r.at()
	r.must("(")
	names := []string{r.name()}
	r.must(":")
	from := r.term(level + 1)
	r.must(")")
	kind, _ := r.arrow()
	out := two(kind, from, r.term(level+1))
	out.Names, out.At = names, at
	return out
}

// arrow passes `->` or `*`, if one is next, and tells the kind that it makes.
func (r *reader) arrow() (int, bool) {
	if r.take("->") {
		return Pi, true
	}
	return Sigma, r.take("*")
}

func (r *reader) app(level int) api.Tree {
	out := r.atom(level)
	for {
		switch {
		case r.take("@"):
			out = two(At, out, r.dim(level+1))
		case r.seesName() || r.sees("(") || r.sees("["):
			out = two(App, out, r.atom(level))
		default:
			return out
		}
	}
}

// two is a tree that begins where its first part does.
func two(kind int, a, b api.Tree) api.Tree {
	return api.Tree{Kind: kind, Kids: []api.Tree{a, b}, At: a.At}
}

func (r *reader) atom(level int) api.Tree {
	switch {
	case r.seesName():
		at := r.at()
		return api.Tree{Kind: Name, Name: r.name(), At: at}
	case r.sees("["):
		return r.box(level)
	}
	return r.brackets(level)
}

// brackets is a Pair, an Ann, or the term that stands between them.
func (r *reader) brackets(level int) api.Tree {
	at := r.at()
	r.must("(")
	out := r.term(level + 1)
	switch {
	case r.take(","):
		out = api.Tree{Kind: Pair, Kids: []api.Tree{out, r.term(level + 1)}, At: at}
	case r.take(":"):
		out = api.Tree{Kind: Ann, Kids: []api.Tree{out, r.term(level + 1)}, At: at}
	}
	r.must(")")
	return out
}

func (r *reader) box(level int) api.Tree {
	out := api.Tree{Kind: Box, At: r.at()}
	r.must("[")
	if r.take("]") {
		return out
	}
	out.Kids = append(out.Kids, r.elem(level))
	for r.take(",") {
		out.Kids = append(out.Kids, r.elem(level))
	}
	r.must("]")
	return out
}

func (r *reader) elem(level int) api.Tree {
	out := api.Tree{Kind: Elem, At: r.at()}
	out.Kids = append(out.Kids, r.face())
	if r.take("->") {
		out.Kids = append(out.Kids, r.term(level+1))
	}
	return out
}

func (r *reader) face() api.Tree {
	out := api.Tree{Kind: Face, At: r.at()}
	if r.take("1") {
		return out
	}
	out.Kids = append(out.Kids, r.eq())
	for r.sees("(") {
		out.Kids = append(out.Kids, r.eq())
	}
	return out
}

func (r *reader) eq() api.Tree {
	out := api.Tree{Kind: Eq, At: r.at()}
	r.must("(")
	out.Name = r.name()
	r.must("=")
	out.Names = []string{r.digit()}
	r.must(")")
	return out
}

func (r *reader) join(level int) api.Tree {
	out := r.meet(level)
	for r.take(`\/`) {
		out = two(Or, out, r.meet(level))
	}
	return out
}

func (r *reader) meet(level int) api.Tree {
	out := r.dim(level)
	for r.take(`/\`) {
		out = two(And, out, r.dim(level))
	}
	return out
}

func (r *reader) dim(level int) api.Tree {
	r.enter(level, "0", "1", "~", "(")
	at := r.at()
	switch {
	case r.seesName():
		return api.Tree{Kind: Name, Name: r.name(), At: at}
	case r.take("~"):
		return api.Tree{Kind: Not, Kids: []api.Tree{r.dim(level + 1)}, At: at}
	case r.take("("):
		out := r.join(level + 1)
		r.must(")")
		return out
	}
	return api.Tree{Kind: Digit, Name: r.digit(), At: at}
}
