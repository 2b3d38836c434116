package show

import (
	"slices"
	"strings"
	"testing"

	"hypercube/api"
	"hypercube/tree"
)

func nm(name string) api.Tree { return api.Tree{Kind: tree.Name, Name: name} }

func digit(name string) api.Tree { return api.Tree{Kind: tree.Digit, Name: name} }

// node tells a tree without a name and without names.
func node(kind int, kids ...api.Tree) api.Tree { return api.Tree{Kind: kind, Kids: kids} }

// naming tells a tree with names, which are put as one text.
func naming(kind int, names string, kids ...api.Tree) api.Tree {
	return api.Tree{Kind: kind, Names: strings.Fields(names), Kids: kids}
}

// face tells a face of such parts as i=0, which are put as one text.
func face(eqs string) api.Tree {
	out := node(tree.Face)
	for _, s := range strings.Fields(eqs) {
		name, digit, _ := strings.Cut(s, "=")
		out.Kids = append(out.Kids, api.Tree{Kind: tree.Eq, Name: name, Names: []string{digit}})
	}
	return out
}

// elem tells an Elem of a face and perhaps a term.
func elem(eqs string, term ...api.Tree) api.Tree {
	return node(tree.Elem, append([]api.Tree{face(eqs)}, term...)...)
}

func decl(name string, kids ...api.Tree) api.Tree {
	return api.Tree{Kind: tree.Decl, Name: name, Kids: kids}
}

func at(dim api.Tree) api.Tree { return node(tree.At, nm("p"), dim) }

func or(a, b api.Tree) api.Tree { return node(tree.Or, a, b) }

func and(a, b api.Tree) api.Tree { return node(tree.And, a, b) }

func not(a api.Tree) api.Tree { return node(tree.Not, a) }

// same holds trees against each other, but for their places.
func same(a, b api.Tree) bool {
	return a.Kind == b.Kind && a.Name == b.Name && slices.Equal(a.Names, b.Names) && slices.EqualFunc(a.Kids, b.Kids, same)
}

// short cuts a text that is too long to be told.
func short(s string) string { return s[:min(len(s), 200)] }

// told holds a tree against its text, which is read as it, alone and as both parts of a declaration.
func told(t *testing.T, x api.Tree, want string) {
	t.Helper()
	if e := Right(x); e != api.OK {
		t.Errorf("Right(the tree of %q) = %d", short(want), e)
	}
	if got, e := Term(x); got != want || e != api.OK {
		t.Errorf("Term = %q, %d, not %q", short(got), e, short(want))
	}
	if got, place, e := tree.Term(want); e != api.OK || !same(got, x) {
		t.Errorf("the text %q is read as %v, %d, %d, not as %v", short(want), got, place, e, x)
	}
	toldFile(t, []api.Tree{decl("d", x, x)}, "d : "+want+" = "+want+";\n")
}

// toldFile holds declarations against their text, which is read as them.
func toldFile(t *testing.T, l []api.Tree, want string) {
	t.Helper()
	if got, e := File(l); got != want || e != api.OK {
		t.Errorf("File = %q, %d, not %q", short(got), e, short(want))
	}
	if got, place, e := tree.Parse(want); e != api.OK || !slices.EqualFunc(got, l, same) {
		t.Errorf("the file %q is read as %v, %d, %d, not as %v", short(want), got, place, e, l)
	}
}

// P8.2: each tree by its line of the grammar.

func TestExample(t *testing.T) {
	told(t, naming(tree.Lam, "x", node(tree.App, nm("f"), node(tree.App, nm("g"), nm("x")))), `\x. f (g x)`)
	told(t, node(tree.Pi, node(tree.Ann, nm("x"), nm("A")), nm("B")), "((x : A)) -> B")
}

func TestNames(t *testing.T) {
	for _, s := range []string{"x", "_", "U", "a", "z", "A", "Z", "x0", "x9", "__1", "Pi", "aZ_09", "hcomp"} {
		told(t, nm(s), s)
		told(t, at(nm(s)), "p @ "+s)
		told(t, naming(tree.Lam, s, nm(s)), `\`+s+". "+s)
		toldFile(t, []api.Tree{decl(s, nm(s), nm(s))}, s+" : "+s+" = "+s+";\n")
	}
}

func TestLams(t *testing.T) {
	for _, x := range []struct {
		kind     int
		from, to string
	}{{tree.Lam, `\`, ". "}, {tree.PLam, "<", "> "}} {
		told(t, naming(x.kind, "x", nm("y")), x.from+"x"+x.to+"y")
		told(t, naming(x.kind, "x y", nm("y")), x.from+"x y"+x.to+"y")
		told(t, naming(x.kind, "x y x _ z0", nm("y")), x.from+"x y x _ z0"+x.to+"y")
		told(t, naming(x.kind, "x", naming(x.kind, "y", nm("x"))), x.from+"x"+x.to+x.from+"y"+x.to+"x")
		told(t, naming(x.kind, "x", node(tree.App, nm("f"), nm("x"))), x.from+"x"+x.to+"f x")
		told(t, naming(x.kind, "x", node(tree.Pi, nm("A"), nm("B"))), x.from+"x"+x.to+"A -> B")
		told(t, naming(x.kind, "x", node(tree.Pair, nm("A"), nm("B"))), x.from+"x"+x.to+"(A, B)")
	}
}

func TestArrows(t *testing.T) {
	lam, app := naming(tree.Lam, "x", nm("x")), node(tree.App, nm("f"), nm("x"))
	for kind, sign := range map[int]string{tree.Pi: " -> ", tree.Sigma: " * "} {
		// With a Name.
		told(t, naming(kind, "x", nm("A"), nm("B")), "(x : A)"+sign+"B")
		told(t, naming(kind, "x", lam, lam), `(x : \x. x)`+sign+`\x. x`)
		told(t, naming(kind, "x", node(tree.Ann, nm("y"), nm("A")), nm("B")), "(x : (y : A))"+sign+"B")
		told(t, naming(kind, "x", naming(kind, "y", nm("A"), nm("B")), nm("C")), "(x : (y : A)"+sign+"B)"+sign+"C")
		told(t, naming(kind, "x", nm("A"), naming(kind, "y", nm("B"), nm("C"))), "(x : A)"+sign+"(y : B)"+sign+"C")
		// Without: the first part is an app.
		told(t, node(kind, nm("A"), nm("B")), "A"+sign+"B")
		told(t, node(kind, app, app), "f x"+sign+"f x")
		told(t, node(kind, at(nm("i")), nm("B")), "p @ i"+sign+"B")
		told(t, node(kind, node(tree.Pair, nm("x"), nm("y")), nm("B")), "(x, y)"+sign+"B")
		told(t, node(kind, node(tree.Box), nm("B")), "[]"+sign+"B")
		told(t, node(kind, node(tree.Ann, app, nm("A")), nm("B")), "(f x : A)"+sign+"B")
		told(t, node(kind, node(tree.Ann, node(tree.Box), nm("A")), nm("B")), "([] : A)"+sign+"B")
		told(t, node(kind, nm("A"), node(kind, nm("B"), nm("C"))), "A"+sign+"B"+sign+"C")
		told(t, node(kind, nm("A"), lam), "A"+sign+`\x. x`)
		told(t, node(kind, nm("A"), node(tree.Ann, nm("x"), nm("B"))), "A"+sign+"(x : B)")
		// It is none.
		told(t, node(kind, lam, nm("B")), `(\x. x)`+sign+"B")
		told(t, node(kind, naming(tree.PLam, "i j", nm("x")), nm("B")), "(<i j> x)"+sign+"B")
		told(t, node(kind, node(tree.Pi, nm("A"), nm("B")), nm("C")), "(A -> B)"+sign+"C")
		told(t, node(kind, node(tree.Sigma, nm("A"), nm("B")), nm("C")), "(A * B)"+sign+"C")
		told(t, node(kind, naming(tree.Pi, "x", nm("A"), nm("B")), nm("C")), "((x : A) -> B)"+sign+"C")
		// It is an Ann of a Name, or such a one begins it.
		ann := node(tree.Ann, nm("x"), nm("A"))
		told(t, node(kind, ann, nm("B")), "((x : A))"+sign+"B")
		told(t, node(kind, node(tree.Ann, nm("x"), lam), ann), `((x : \x. x))`+sign+"(x : A)")
		told(t, node(kind, node(kind, ann, nm("B")), nm("C")), "(((x : A))"+sign+"B)"+sign+"C")
		told(t, node(kind, node(tree.Ann, ann, nm("B")), nm("C")), "((x : A) : B)"+sign+"C")
		told(t, node(kind, node(tree.App, ann, nm("y")), nm("B")), "(x : A) y"+sign+"B")
		told(t, node(kind, node(tree.At, ann, nm("i")), nm("B")), "(x : A) @ i"+sign+"B")
	}
}

func TestApps(t *testing.T) {
	app := func(a, b api.Tree) api.Tree { return node(tree.App, a, b) }
	told(t, app(nm("f"), nm("x")), "f x")
	told(t, app(app(nm("f"), nm("x")), nm("y")), "f x y")
	told(t, app(nm("f"), app(nm("x"), nm("y"))), "f (x y)")
	told(t, app(app(nm("f"), nm("x")), app(nm("y"), nm("z"))), "f x (y z)")
	told(t, app(app(app(nm("f"), nm("x")), nm("y")), nm("z")), "f x y z")
	told(t, app(nm("f"), app(nm("x"), app(nm("y"), nm("z")))), "f (x (y z))")
	// Each kind of term as its first part, and as its second.
	for _, x := range []struct {
		part          api.Tree
		first, second string
	}{
		{naming(tree.Lam, "x y", nm("x")), `(\x y. x) a`, `a (\x y. x)`},
		{naming(tree.PLam, "i", nm("x")), "(<i> x) a", "a (<i> x)"},
		{naming(tree.Pi, "x", nm("A"), nm("B")), "((x : A) -> B) a", "a ((x : A) -> B)"},
		{node(tree.Pi, nm("A"), nm("B")), "(A -> B) a", "a (A -> B)"},
		{naming(tree.Sigma, "x", nm("A"), nm("B")), "((x : A) * B) a", "a ((x : A) * B)"},
		{node(tree.Sigma, nm("A"), nm("B")), "(A * B) a", "a (A * B)"},
		{at(nm("i")), "p @ i a", "a (p @ i)"},
		{at(digit("0")), "p @ 0 a", "a (p @ 0)"},
		{node(tree.Pair, nm("x"), nm("y")), "(x, y) a", "a (x, y)"},
		{node(tree.Ann, nm("x"), nm("A")), "(x : A) a", "a (x : A)"},
		{node(tree.Box), "[] a", "a []"},
		{node(tree.Box, elem("", nm("x"))), "[1 -> x] a", "a [1 -> x]"},
	} {
		told(t, app(x.part, nm("a")), x.first)
		told(t, app(nm("a"), x.part), x.second)
	}
}

func TestAts(t *testing.T) {
	for _, x := range []struct {
		first api.Tree
		want  string
	}{
		{nm("p"), "p @ i"},
		{node(tree.App, nm("f"), nm("x")), "f x @ i"},
		{at(nm("j")), "p @ j @ i"},
		{at(digit("1")), "p @ 1 @ i"},
		{at(and(nm("j"), nm("k"))), `p @ (j /\ k) @ i`},
		{node(tree.App, at(nm("j")), nm("x")), "p @ j x @ i"},
		{naming(tree.Lam, "x", nm("x")), `(\x. x) @ i`},
		{naming(tree.PLam, "i", nm("x")), "(<i> x) @ i"},
		{node(tree.Pi, nm("A"), nm("B")), "(A -> B) @ i"},
		{naming(tree.Sigma, "x", nm("A"), nm("B")), "((x : A) * B) @ i"},
		{node(tree.Pair, nm("x"), nm("y")), "(x, y) @ i"},
		{node(tree.Ann, nm("x"), nm("A")), "(x : A) @ i"},
		{node(tree.Box), "[] @ i"},
	} {
		told(t, node(tree.At, x.first, nm("i")), x.want)
	}
}

// What stands behind `@`: there, behind `~`, in what is met and in what is joined.
func TestDims(t *testing.T) {
	i, j, k := nm("i"), nm("j"), nm("k")
	for _, x := range []struct {
		dim  api.Tree
		want string
	}{
		{i, "i"}, {digit("0"), "0"}, {digit("1"), "1"},
		{not(i), "~i"}, {not(digit("0")), "~0"}, {not(not(digit("1"))), "~~1"},
		{not(and(i, j)), `~(i /\ j)`}, {not(or(i, j)), `~(i \/ j)`}, {not(not(or(i, j))), `~~(i \/ j)`},
		{and(i, j), `(i /\ j)`}, {and(digit("0"), digit("1")), `(0 /\ 1)`}, {and(not(i), not(j)), `(~i /\ ~j)`},
		{and(and(i, j), k), `(i /\ j /\ k)`}, {and(i, and(j, k)), `(i /\ (j /\ k))`},
		{and(or(i, j), k), `((i \/ j) /\ k)`}, {and(i, or(j, k)), `(i /\ (j \/ k))`}, {and(or(i, j), or(j, k)), `((i \/ j) /\ (j \/ k))`},
		{and(and(or(i, j), k), i), `((i \/ j) /\ k /\ i)`}, {and(not(or(i, j)), k), `(~(i \/ j) /\ k)`},
		{or(i, j), `(i \/ j)`}, {or(digit("1"), not(j)), `(1 \/ ~j)`},
		{or(or(i, j), k), `(i \/ j \/ k)`}, {or(i, or(j, k)), `(i \/ (j \/ k))`},
		{or(and(i, j), k), `(i /\ j \/ k)`}, {or(i, and(j, k)), `(i \/ j /\ k)`}, {or(and(i, j), and(j, k)), `(i /\ j \/ j /\ k)`},
		{or(or(i, and(j, k)), i), `(i \/ j /\ k \/ i)`}, {or(i, and(or(j, k), i)), `(i \/ (j \/ k) /\ i)`},
	} {
		told(t, at(x.dim), "p @ "+x.want)
		told(t, at(not(x.dim)), "p @ ~"+x.want)
		told(t, node(tree.App, at(x.dim), nm("x")), "p @ "+x.want+" x")
	}
}

func TestPairsAndAnns(t *testing.T) {
	for kind, sign := range map[int]string{tree.Pair: ", ", tree.Ann: " : "} {
		told(t, node(kind, nm("x"), nm("y")), "(x"+sign+"y)")
		for _, x := range []struct {
			part api.Tree
			want string
		}{
			{naming(tree.Lam, "x", nm("x")), `\x. x`},
			{naming(tree.PLam, "i", nm("x")), "<i> x"},
			{naming(tree.Pi, "x", nm("A"), nm("B")), "(x : A) -> B"},
			{node(tree.Sigma, nm("A"), nm("B")), "A * B"},
			{node(tree.App, nm("f"), nm("x")), "f x"},
			{at(or(nm("i"), nm("j"))), `p @ (i \/ j)`},
			{node(tree.Pair, nm("x"), nm("y")), "(x, y)"},
			{node(tree.Ann, nm("x"), nm("y")), "(x : y)"},
			{node(tree.Box), "[]"},
		} {
			told(t, node(kind, x.part, nm("y")), "("+x.want+sign+"y)")
			told(t, node(kind, nm("x"), x.part), "(x"+sign+x.want+")")
			told(t, node(kind, x.part, x.part), "("+x.want+sign+x.want+")")
		}
	}
}

func TestBoxes(t *testing.T) {
	lam := naming(tree.Lam, "x", nm("x"))
	for _, x := range []struct {
		box  api.Tree
		want string
	}{
		{node(tree.Box), "[]"},
		{node(tree.Box, elem("")), "[1]"},
		{node(tree.Box, elem("", nm("x"))), "[1 -> x]"},
		{node(tree.Box, elem("i=0")), "[(i=0)]"},
		{node(tree.Box, elem("i=1")), "[(i=1)]"},
		{node(tree.Box, elem("i=1", nm("x"))), "[(i=1) -> x]"},
		{node(tree.Box, elem("i=0 j=1")), "[(i=0)(j=1)]"},
		{node(tree.Box, elem("i=0 j=1 i=1", nm("x"))), "[(i=0)(j=1)(i=1) -> x]"},
		{node(tree.Box, elem(""), elem("i=0"), elem("")), "[1, (i=0), 1]"},
		{node(tree.Box, elem("i=0", lam), elem("i=1 j=0", node(tree.Pi, nm("A"), nm("B"))), elem("")), `[(i=0) -> \x. x, (i=1)(j=0) -> A -> B, 1]`},
		{node(tree.Box, elem("", node(tree.Ann, nm("x"), nm("A")))), "[1 -> (x : A)]"},
		{node(tree.Box, elem("i=0", node(tree.Pair, nm("x"), nm("e"))), elem("i=1", node(tree.App, nm("f"), nm("x")))), "[(i=0) -> (x, e), (i=1) -> f x]"},
		{node(tree.Box, elem("", node(tree.Box, elem("", node(tree.Box))))), "[1 -> [1 -> []]]"},
	} {
		told(t, x.box, x.want)
		told(t, node(tree.App, node(tree.App, nm("f"), x.box), nm("a")), "f "+x.want+" a")
		told(t, node(tree.Pi, x.box, x.box), x.want+" -> "+x.want)
	}
}

func TestFiles(t *testing.T) {
	toldFile(t, nil, "")
	toldFile(t, []api.Tree{}, "")
	toldFile(t, []api.Tree{decl("f", nm("U"), nm("U"))}, "f : U = U;\n")
	arrow, lam := node(tree.Pi, nm("f"), nm("f")), naming(tree.Lam, "x", nm("x"))
	toldFile(t, []api.Tree{decl("f", nm("U"), nm("U")), decl("g", arrow, lam), decl("f", lam, arrow)}, "f : U = U;\ng : f -> f = \\x. x;\nf : \\x. x = f -> f;\n")
	toldFile(t, []api.Tree{decl("a_1", node(tree.Ann, nm("x"), nm("A")), node(tree.Box))}, "a_1 : (x : A) = [];\n")
	many := slices.Repeat([]api.Tree{decl("f", nm("U"), nm("U"))}, 1000)
	toldFile(t, many, strings.Repeat("f : U = U;\n", 1000))
}

// Places are of no use, whatever numbers they are.
func TestPlaces(t *testing.T) {
	x, place, e := tree.Term(` \x. (f x @ ~i , [ (i=0) -> A ])`)
	if e != api.OK {
		t.Fatal(place, e)
	}
	for n, place := range []int{0, -1, 1 << 40, -1 << 63} {
		var move func(x api.Tree) api.Tree
		move = func(x api.Tree) api.Tree {
			x.At = place + n
			x.Kids = slices.Clone(x.Kids)
			for k := range x.Kids {
				x.Kids[k] = move(x.Kids[k])
			}
			return x
		}
		told(t, move(x), `\x. (f x @ ~i, [(i=0) -> A])`)
	}
}
