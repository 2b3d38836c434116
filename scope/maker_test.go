package scope

import (
	"slices"
	"strings"

	"hypercube/api"
	"hypercube/sample"
	"hypercube/tree"
)

// maker makes trees together with their terms, and with what is wrong with them, in the order of the chapter's words: another road to what Resolve tells. Names stand in lists, the innermost first, and are sought one by one.
type maker struct {
	numbers             []uint32
	at                  int
	globals, vars, dims []string
	rare                int // a fault is put in once in so many times; never, if 0
	faults              []fault
}

// choice tells a number below n.
func (m *maker) choice(n int) int {
	if len(m.numbers) == 0 {
		return 0
	}
	out := m.numbers[0]
	m.numbers = m.numbers[1:]
	return int(out % uint32(n))
}

func (m *maker) slips() bool { return m.rare > 0 && m.choice(m.rare) == 0 }

// tree tells a tree with a place that no other one has.
func (m *maker) tree(kind int, kids ...api.Tree) api.Tree {
	m.at += 3
	return api.Tree{Kind: kind, Kids: kids, At: m.at}
}

func (m *maker) wrong(t api.Tree, e api.Errno) { m.faults = append(m.faults, fault{t.At, e}) }

// few are names of which many are the same; the first two are the globals.
var few = []string{"c", "d", "x", "y", "i", "j", "k"}

func (m *maker) name() string {
	if m.slips() {
		return pick(m, "U", "loop", "merid", "Path", "hcomp")
	}
	return few[m.choice(len(few))]
}

func (m *maker) names(n int) []string {
	var out []string
	for range n {
		out = append(out, m.name())
	}
	return out
}

func pick[T any](m *maker, l ...T) T { return l[m.choice(len(l))] }

func isWord(s string) bool {
	_, is := takes[s]
	return is
}

// term tells a tree of about so many parts, and its term.
func (m *maker) term(size int) (api.Tree, api.Term) {
	if m.slips() {
		t, _ := m.box(size, "", 1)
		m.faults = append(m.faults, fault{t.At, api.ErrForm})
		return t, api.Term{}
	}
	if size <= 1 {
		return m.leaf()
	}
	switch m.choice(9) {
	case 0:
		return m.binds(tree.Lam, api.Lam, 1+m.choice(3), size)
	case 1:
		return m.binds(tree.PLam, api.PLam, 1+m.choice(3), size)
	case 2:
		return m.arrow(pick(m, [2]int{tree.Pi, api.Pi}, [2]int{tree.Sigma, api.Sigma}), size)
	case 3:
		return m.both(pick(m, [2]int{tree.Pair, api.Pair}, [2]int{tree.Ann, api.The}), size)
	case 4:
		return m.app(size)
	case 5:
		return m.atFormula(size)
	}
	return m.call(size)
}

// leaf tells a word without arguments, a variable or a constant; a name that nothing has, if that is a slip.
func (m *maker) leaf() (api.Tree, api.Term) {
	t := m.tree(tree.Name)
	if m.choice(4) == 0 {
		t.Name = pick(m, "U", "S1", "base", "north", "south")
		return t, api.Term{Kind: map[string]int{"U": api.Univ, "S1": api.Circle, "base": api.Base, "north": api.North, "south": api.South}[t.Name]}
	}
	t.Name = m.name()
	if n := slices.Index(m.vars, t.Name); n >= 0 {
		return t, api.Term{Kind: api.Var, N: n}
	}
	switch {
	case slices.Contains(m.globals, t.Name):
		return t, api.Term{Kind: api.Const, Name: t.Name}
	case t.Name == "U":
		return t, api.Term{Kind: api.Univ}
	case isWord(t.Name):
		m.wrong(t, api.ErrForm)
		return t, api.Term{}
	case m.slips():
		m.wrong(t, api.ErrScope)
		return t, api.Term{}
	}
	t.Name = m.globals[0]
	return t, m.seek(t.Name)
}

// seek tells what a name means that something has.
func (m *maker) seek(name string) api.Term {
	if n := slices.Index(m.vars, name); n >= 0 {
		return api.Term{Kind: api.Var, N: n}
	}
	return api.Term{Kind: api.Const, Name: name}
}

// binds tells a Lam or a PLam of n Names.
func (m *maker) binds(kind, made, n, size int) (api.Tree, api.Term) {
	t, body := m.opened(kind, n, size)
	for range t.Names {
		body = api.Term{Kind: made, Kids: []api.Term{body}}
	}
	return t, body
}

// opened tells a Lam or a PLam, and the term behind all Names.
func (m *maker) opened(kind, n, size int) (api.Tree, api.Term) {
	t := m.tree(kind)
	t.Names = m.names(n)
	vars, dims := m.vars, m.dims
	in := slices.Clone(t.Names)
	slices.Reverse(in)
	if kind == tree.Lam {
		m.vars = slices.Concat(in, m.vars)
	} else {
		m.dims = slices.Concat(in, m.dims)
	}
	if slices.ContainsFunc(t.Names, isWord) {
		m.wrong(t, api.ErrForm)
	} else if len(m.dims) > api.MaxDims {
		m.wrong(t, api.ErrDims)
	}
	kid, body := m.term(size - 1)
	t.Kids = []api.Tree{kid}
	m.vars, m.dims = vars, dims
	return t, body
}

func (m *maker) arrow(kinds [2]int, size int) (api.Tree, api.Term) {
	t := m.tree(kinds[0])
	name := "(none)"
	if m.choice(2) == 0 {
		t.Names = m.names(1)
		name = t.Names[0]
	}
	if isWord(name) {
		m.wrong(t, api.ErrForm)
	}
	a, from := m.term(size / 2)
	vars := m.vars
	m.vars = slices.Concat([]string{name}, m.vars)
	b, to := m.term(size / 2)
	m.vars = vars
	t.Kids = []api.Tree{a, b}
	return t, api.Term{Kind: kinds[1], Kids: []api.Term{from, to}}
}

func (m *maker) both(kinds [2]int, size int) (api.Tree, api.Term) {
	a, first := m.term(size / 2)
	b, second := m.term(size / 2)
	return m.tree(kinds[0], a, b), api.Term{Kind: kinds[1], Kids: []api.Term{first, second}}
}

// app tells what is no word, applied.
func (m *maker) app(size int) (api.Tree, api.Term) {
	t, out := m.term(size / 3)
	if first(t).Kind == tree.Name && isWord(first(t).Name) { // with more arguments it could be another call
		t, out = m.typed(t, out)
	}
	return m.applied(t, out, 1+m.choice(3), size)
}

// first tells what is applied, at last.
func first(t api.Tree) api.Tree {
	for t.Kind == tree.App {
		t = t.Kids[0]
	}
	return t
}

// typed tells an Ann of a tree, and its term.
func (m *maker) typed(t api.Tree, out api.Term) (api.Tree, api.Term) {
	univ := m.tree(tree.Name)
	univ.Name = "U"
	return m.tree(tree.Ann, t, univ), api.Term{Kind: api.The, Kids: []api.Term{out, {Kind: api.Univ}}}
}

// applied tells a tree that is applied n times.
func (m *maker) applied(t api.Tree, out api.Term, n, size int) (api.Tree, api.Term) {
	for range n {
		a, arg := m.term(size / 3)
		t, out = m.tree(tree.App, t, a), api.Term{Kind: api.App, Kids: []api.Term{out, arg}}
	}
	return t, out
}

func (m *maker) atFormula(size int) (api.Tree, api.Term) {
	var t api.Tree
	out := api.Term{Kind: api.Loop}
	switch m.choice(3) {
	case 0:
		t = m.tree(tree.Name)
		t.Name = "loop"
	case 1:
		word := m.tree(tree.Name)
		word.Name = "merid"
		a, arg := m.term(size / 2)
		t, out = m.tree(tree.App, word, a), api.Term{Kind: api.Merid, Kids: []api.Term{arg}}
	default:
		a, path := m.term(size / 2)
		if word := first(a).Name; word == "loop" || word == "merid" { // a slip that would be none behind it
			a, path = m.typed(a, path)
		}
		t, out = a, api.Term{Kind: api.PApp, Kids: []api.Term{path, {Kind: api.Univ}, {Kind: api.Univ}}}
	}
	dim, r := m.dim(1 + m.choice(6))
	out.R = r
	return m.tree(tree.At, t, dim), out
}

// callForms are the words that take arguments: what each is asked for (t a term, l a line, b a binder, and Boxes: f of faces, h of lines, p of Pairs, s of terms), and the kind of its term.
var callForms = map[string]struct {
	asks string
	kind int
}{
	"fst": {"t", api.Fst}, "snd": {"t", api.Snd}, "Susp": {"t", api.Susp}, "unglue": {"t", api.Unglue}, "merid": {"t", api.Merid}, "glue": {"ts", api.MkGlue}, "Glue": {"tp", api.Glue},
	"Path": {"ltt", api.Path}, "transp": {"lft", api.Transp}, "hcomp": {"tht", api.HComp}, "S1elim": {"bttt", api.CircleEl}, "Suspelim": {"btttt", api.SuspEl},
}

func (m *maker) call(size int) (api.Tree, api.Term) {
	t := m.tree(tree.Name)
	t.Name = pick(m, "fst", "snd", "Susp", "unglue", "glue", "glue", "Glue", "Glue", "Path", "transp", "transp", "hcomp", "hcomp", "S1elim", "Suspelim")
	if m.slips() {
		t.Name = "merid"
		m.wrong(t, api.ErrForm)
	}
	form := callForms[t.Name]
	if m.slips() {
		return m.tooFew(t, len(form.asks), size)
	}
	out := api.Term{Kind: form.kind}
	for _, ask := range form.asks {
		a := m.argument(ask, size/len(form.asks), &out)
		t = m.tree(tree.App, t, a)
	}
	if m.choice(4) == 0 {
		return m.applied(t, out, 1+m.choice(2), size)
	}
	return t, out
}

// tooFew tells a word with fewer arguments than it takes: it is refused ahead of them.
func (m *maker) tooFew(t api.Tree, n, size int) (api.Tree, api.Term) {
	told := len(m.faults)
	for range m.choice(n) {
		a, _ := m.term(size / n)
		t = m.tree(tree.App, t, a)
	}
	m.faults = slices.Insert(m.faults, told, fault{t.At, api.ErrForm})
	return t, api.Term{}
}

func (m *maker) argument(ask rune, size int, out *api.Term) api.Tree {
	if strings.ContainsRune("fhps", ask) {
		if m.slips() {
			return m.noBox(size)
		}
		t, made := m.box(size, string(ask), 4)
		out.R, out.Sys = made.R, made.Sys
		return t
	}
	var t api.Tree
	var kid api.Term
	switch {
	case ask == 't':
		t, kid = m.term(size)
	case m.slips():
		told := len(m.faults)
		t, _ = m.opened(pick(m, tree.Lam, tree.PLam), 2, size)
		m.faults = slices.Insert(m.faults, told, fault{t.At, api.ErrForm})
	case ask == 'l':
		t, kid = m.opened(tree.PLam, 1, size)
	default:
		t, kid = m.opened(tree.Lam, 1, size)
	}
	out.Kids = append(out.Kids, kid)
	return t
}

// noBox tells an argument that is refused ahead of its parts.
func (m *maker) noBox(size int) api.Tree {
	told := len(m.faults)
	t, _ := m.both([2]int{tree.Pair, api.Pair}, size)
	m.faults = slices.Insert(m.faults, told, fault{t.At, api.ErrForm})
	return t
}

// box tells a Box of fewer than n Elems, and a term with its face or its branches.
func (m *maker) box(size int, ask string, n int) (api.Tree, api.Term) {
	out := m.tree(tree.Box)
	var made api.Term
	for range m.choice(n) {
		elem := m.tree(tree.Elem)
		if m.slips() {
			m.wrong(elem, api.ErrForm)
			elem.Kids = []api.Tree{m.tree(tree.Face)}
			if ask == "f" {
				elem.Kids = append(elem.Kids, m.tree(tree.Box))
			}
			out.Kids = append(out.Kids, elem)
			continue
		}
		f, clause := m.face()
		elem.Kids = []api.Tree{f}
		if ask == "f" {
			made.R = sample.Least(append(made.R, clause))
		} else {
			t, kids := m.branch(size/n, ask)
			elem.Kids = append(elem.Kids, t)
			made.Sys = append(made.Sys, api.Branch{Face: []api.Clause{clause}, Kids: kids})
		}
		out.Kids = append(out.Kids, elem)
	}
	return out, made
}

func (m *maker) branch(size int, ask string) (api.Tree, []api.Term) {
	switch ask {
	case "h":
		t, body := m.opened(tree.PLam, 1, size)
		return t, []api.Term{body}
	case "p":
		t, pair := m.both([2]int{tree.Pair, api.Pair}, size)
		return t, pair.Kids
	}
	t, out := m.term(size)
	return t, []api.Term{out}
}

func (m *maker) face() (api.Tree, api.Clause) {
	t := m.tree(tree.Face)
	var c api.Clause
	for range m.choice(4) {
		eq := m.tree(tree.Eq)
		if m.slips() {
			eq.Name, eq.Names = "lost", []string{"0"}
			m.wrong(eq, api.ErrScope)
			t.Kids = append(t.Kids, eq)
			continue
		}
		if len(m.dims) == 0 {
			continue
		}
		eq.Name = m.dims[m.choice(len(m.dims))]
		bit := uint32(1) << slices.Index(m.dims, eq.Name)
		one := m.choice(2) == 0
		if one && c.Neg&bit != 0 || !one && c.Pos&bit != 0 {
			one = one == m.slips()
		}
		if one {
			c.Pos |= bit
			eq.Names = []string{"1"}
		} else {
			c.Neg |= bit
			eq.Names = []string{"0"}
		}
		t.Kids = append(t.Kids, eq)
	}
	if c.Pos&c.Neg != 0 {
		m.wrong(t, api.ErrForm)
	}
	return t, c
}

// dim tells a formula of so many parts.
func (m *maker) dim(size int) (api.Tree, []api.Clause) {
	if size <= 1 {
		return m.smallDim()
	}
	a, f := m.dim(size / 2)
	switch m.choice(3) {
	case 0:
		return m.tree(tree.Not, a), opposite(f)
	case 1:
		b, g := m.dim(size - size/2)
		return m.tree(tree.And, a, b), met(f, g)
	}
	b, g := m.dim(size - size/2)
	return m.tree(tree.Or, a, b), sample.Least(slices.Concat(f, g))
}

func (m *maker) smallDim() (api.Tree, []api.Clause) {
	if m.slips() {
		t := m.tree(tree.Name)
		t.Name = "lost"
		m.wrong(t, api.ErrScope)
		return t, nil
	}
	n := m.choice(10)
	if n > 1 && len(m.dims) > 0 {
		t := m.tree(tree.Name)
		t.Name = m.dims[n%len(m.dims)]
		return t, []api.Clause{{Pos: 1 << slices.Index(m.dims, t.Name)}}
	}
	t := m.tree(tree.Digit)
	t.Name = []string{"0", "1"}[n%2]
	return t, make([]api.Clause, n%2)
}

func met(f, g []api.Clause) []api.Clause {
	var out []api.Clause
	for _, a := range f {
		out = append(out, sample.Met(g, a)...)
	}
	return sample.Least(out)
}

func opposite(f []api.Clause) []api.Clause {
	out := []api.Clause{{}}
	for _, c := range f {
		var turned []api.Clause
		for i := range api.MaxDims {
			if c.Pos>>i&1 == 1 {
				turned = append(turned, api.Clause{Neg: 1 << i})
			}
			if c.Neg>>i&1 == 1 {
				turned = append(turned, api.Clause{Pos: 1 << i})
			}
		}
		out = met(out, turned)
	}
	return out
}
