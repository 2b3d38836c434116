package show

import (
	"slices"
	"strings"
	"testing"

	"hypercube/api"
	"hypercube/lex"
	"hypercube/sample"
	"hypercube/tree"
)

// tokensOf tells the texts of a text's tokens.
func tokensOf(t *testing.T, s string) []string {
	t.Helper()
	l, place, e := lex.Scan(s)
	if e != api.OK {
		t.Fatalf("Scan(%q): %d, %d", short(s), place, e)
	}
	var out []string
	for _, x := range l[:len(l)-1] {
		out = append(out, x.Text)
	}
	return out
}

// spaced puts tokens together with the blanks that the chapter names: another road to a text, by what stands beside what.
func spaced(tokens []string) string {
	both := []string{":", "->", "*", `/\`, `\/`, "@"}
	behind := append([]string{",", ".", ">"}, both...)
	isEnd := func(s string) bool { // of an atom, or of a dim
		return s == ")" || s == "]" || s == "0" || s == "1" || isWord(s)
	}
	out := ""
	for k, s := range tokens {
		if k > 0 {
			last := tokens[k-1]
			begins := s == "(" || s == "[" || isWord(s)
			eqs := s == "(" && last == ")" && k > 3 && tokens[k-3] == "="
			if slices.Contains(behind, last) || slices.Contains(both, s) || isEnd(last) && begins && !eqs {
				out += " "
			}
		}
		out += s
	}
	return out
}

func isWord(s string) bool {
	return strings.Trim(s[:1], "abcdefghijklmnopqrstuvwxyzABCDEFGHIJKLMNOPQRSTUVWXYZ_") == ""
}

// without tells tokens without the `(` at a place, and without its `)`.
func without(tokens []string, open int) []string {
	depth := 0
	for k := open; k < len(tokens); k++ {
		switch tokens[k] {
		case "(":
			depth++
		case ")":
			depth--
		}
		if depth == 0 {
			return slices.Concat(tokens[:open], tokens[open+1:k], tokens[k+1:])
		}
	}
	return nil
}

// againRead holds a tree that may be against its text: it is read as it, its blanks are those that the chapter names, and no brackets are needless.
func againRead(t *testing.T, x api.Tree) {
	t.Helper()
	s, e := Term(x)
	if e != api.OK || Right(x) != api.OK {
		t.Fatalf("Term(%v) = %q, %d; Right = %d", x, s, e, Right(x))
	}
	if got, place, e := tree.Term(s); e != api.OK || !same(got, x) {
		t.Errorf("Term(%v) = %q, which is read as %v, %d, %d", x, s, got, place, e)
	}
	tokens := tokensOf(t, s)
	if want := spaced(tokens); s != want {
		t.Errorf("Term(%v) = %q, not with the blanks of %q", x, s, want)
	}
	for k, token := range tokens {
		if token != "(" {
			continue
		}
		fewer := strings.Join(without(tokens, k), " ")
		if got, _, e := tree.Term(fewer); e == api.OK && same(got, x) {
			t.Errorf("Term(%v) = %q, though %q is read as it", x, s, fewer)
		}
	}
}

// P8.3: what is shown of a tree that may be is it again.

// grown tells all trees of so many parts with few names: terms, and dims.
type grown struct{ terms, dims [][]api.Tree }

// pairs hands all pairs of trees with so many parts together.
func pairs(a, b [][]api.Tree, size int, hand func(x, y api.Tree)) {
	for n := 1; n < size; n++ {
		for _, x := range a[n] {
			for _, y := range b[size-n] {
				hand(x, y)
			}
		}
	}
}

// grow adds the trees of one part more. An Elem with its Face counts as one.
func (g *grown) grow() {
	size := len(g.terms)
	if size <= 1 {
		g.terms = [][]api.Tree{nil, {nm("x"), node(tree.Box)}}
		g.dims = [][]api.Tree{nil, {nm("i"), digit("1")}}
		return
	}
	var terms, dims []api.Tree
	for _, x := range g.terms[size-1] {
		terms = append(terms, naming(tree.Lam, "x", x), naming(tree.PLam, "i j", x), node(tree.Box, elem("", x), elem("i=0 j=1")))
	}
	pairs(g.terms, g.terms, size-1, func(x, y api.Tree) {
		terms = append(terms, naming(tree.Pi, "x", x, y), node(tree.Sigma, x, y), node(tree.App, x, y), node(tree.Pair, x, y), node(tree.Ann, x, y))
	})
	pairs(g.terms, g.dims, size-1, func(x, y api.Tree) { terms = append(terms, node(tree.At, x, y)) })
	for _, x := range g.dims[size-1] {
		dims = append(dims, not(x))
	}
	pairs(g.dims, g.dims, size-1, func(x, y api.Tree) { dims = append(dims, and(x, y), or(x, y)) })
	g.terms, g.dims = append(g.terms, terms), append(g.dims, dims)
}

func TestAllSmallTrees(t *testing.T) {
	var g grown
	for range 6 {
		g.grow()
	}
	count := 0
	for _, l := range g.terms {
		for _, x := range l {
			againRead(t, x)
			count++
		}
	}
	for _, l := range g.dims {
		for _, x := range l {
			againRead(t, at(x))
			againRead(t, node(tree.App, node(tree.At, nm("p"), x), nm("y")))
			count++
		}
	}
	if count < 5000 {
		t.Errorf("%d trees: too few to tell", count)
	}
}

func TestMadeTrees(t *testing.T) {
	for seed := range uint32(6000) {
		m := maker{numbers: sample.Spread(seed*2654435761+13, 400)}
		againRead(t, m.term(1+int(seed%40)))
	}
}

func TestMadeFiles(t *testing.T) {
	for seed := range uint32(3000) {
		m := maker{numbers: sample.Spread(seed*2654435761+17, 400)}
		l := m.file(int(seed % 6))
		want := ""
		for _, x := range l {
			from, _ := Term(x.Kids[0])
			to, _ := Term(x.Kids[1])
			want += x.Name + " : " + from + " = " + to + ";\n"
		}
		toldFile(t, l, want)
	}
}

// P8.3: what is read of a text may be, and is shown so that it is read as it was.

func readAgain(t *testing.T, s string) {
	t.Helper()
	x, place, e := tree.Term(s)
	if e != api.OK {
		t.Fatalf("Term(%q): %d, %d", short(s), place, e)
	}
	againRead(t, x)
}

func TestScatteredTexts(t *testing.T) {
	for seed := range uint32(3000) {
		m := maker{numbers: sample.Spread(seed*2654435761+19, 3000)}
		x := m.term(1 + int(seed%20))
		readAgain(t, m.scattered(tokensOf(t, loose(x))))
		shown, _ := Term(x)
		readAgain(t, m.scattered(tokensOf(t, shown)))
	}
}

// All texts of few tokens that are read.
func TestShortTexts(t *testing.T) {
	signs := strings.Fields(`x -> /\ \/ ( ) [ ] , . : ; = \ < > @ ~ * 0 1`)
	terms, files := 0, 0
	var grow func(text string, more int, read func(s string) (int, api.Errno))
	grow = func(text string, more int, read func(s string) (int, api.Errno)) {
		// What is refused ahead of its end is refused, however it goes on.
		if place, e := read(text); e != api.OK && place < len(text) || more == 0 {
			return
		}
		for _, s := range signs {
			grow(text+s+" ", more-1, read)
		}
	}
	grow("", 8, func(s string) (int, api.Errno) {
		x, place, e := tree.Term(s)
		if e == api.OK {
			terms++
			againRead(t, x)
		}
		return place, e
	})
	grow("", 9, func(s string) (int, api.Errno) {
		l, place, e := tree.Parse(s)
		if e == api.OK {
			files++
			text, e := File(l)
			if again, _, f := tree.Parse(text); e != api.OK || f != api.OK || !slices.EqualFunc(again, l, same) {
				t.Errorf("File of %q = %q, %d, which is read as %v, %d", s, text, e, again, f)
			}
		}
		return place, e
	})
	if terms < 1000 || files < 100 {
		t.Errorf("%d terms and %d files are read: too few to tell", terms, files)
	}
}

// What is handed in stays as it is, and what lies behind its lists is of no interest.

// roomy tells a tree whose lists have spare room with other things in it.
func roomy(x api.Tree) api.Tree {
	x.Names = append(slices.Clone(x.Names), "no name", "0", "x")[:len(x.Names)]
	kids := []api.Tree{}
	for _, kid := range x.Kids {
		kids = append(kids, roomy(kid))
	}
	x.Kids = append(kids, api.Tree{Kind: 99}, nm("x"))[:len(kids)]
	return x
}

// whole tells a tree with the spare room of its lists as parts.
func whole(x api.Tree) api.Tree {
	x.Names = slices.Clone(x.Names[:cap(x.Names)])
	kids := x.Kids[:cap(x.Kids)]
	x.Kids = nil
	for _, kid := range kids {
		x.Kids = append(x.Kids, whole(kid))
	}
	return x
}

func TestGivenStays(t *testing.T) {
	for seed := range uint32(1000) {
		m := maker{numbers: sample.Spread(seed*2654435761+23, 400)}
		x := m.term(1 + int(seed%30))
		want, _ := Term(x)
		d := roomy(decl("d", x, x))
		before := whole(d)
		if got, e := Term(d.Kids[0]); got != want || e != api.OK || Right(d.Kids[1]) != api.OK {
			t.Errorf("with spare room: Term = %q, %d, not %q", got, e, want)
		}
		if got, e := File([]api.Tree{d}); got != "d : "+want+" = "+want+";\n" || e != api.OK {
			t.Errorf("with spare room: File = %q, %d, not of %q", got, e, want)
		}
		if !same(whole(d), before) {
			t.Errorf("the tree of %q was changed", want)
		}
	}
	// What is there, but behind the length, does not help.
	lam := naming(tree.Lam, "x", nm("x"))
	lam.Names = lam.Names[:0]
	refused(t, "Names behind the length", lam)
	app := node(tree.App, nm("f"), nm("x"))
	app.Kids = app.Kids[:1]
	refused(t, "Kids behind the length", app)
}
