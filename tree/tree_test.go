package tree

import (
	"reflect"
	"strings"
	"testing"

	"hypercube/api"
)

// node tells a tree without a name and without names.
func node(kind, at int, kids ...api.Tree) api.Tree { return api.Tree{Kind: kind, Kids: kids, At: at} }

// called tells a tree with a name.
func called(kind int, name string, at int, kids ...api.Tree) api.Tree {
	return api.Tree{Kind: kind, Name: name, Kids: kids, At: at}
}

// naming tells a tree with names, which are put as one text.
func naming(kind int, names string, at int, kids ...api.Tree) api.Tree {
	return api.Tree{Kind: kind, Names: strings.Fields(names), Kids: kids, At: at}
}

func nm(name string, at int) api.Tree { return called(Name, name, at) }

func eq(name, digit string, at int) api.Tree {
	return api.Tree{Kind: Eq, Name: name, Names: []string{digit}, At: at}
}

// bare tells a tree whose empty lists are nil: a list without an element may be either.
func bare(t api.Tree) api.Tree {
	if len(t.Names) == 0 {
		t.Names = nil
	}
	t.Kids = bareAll(t.Kids)
	return t
}

func bareAll(l []api.Tree) []api.Tree {
	var out []api.Tree
	for _, t := range l {
		out = append(out, bare(t))
	}
	return out
}

func alike(a, b api.Tree) bool { return reflect.DeepEqual(bare(a), bare(b)) }

// placeless tells a tree without its places.
func placeless(t api.Tree) api.Tree {
	t.At = 0
	var kids []api.Tree
	for _, kid := range t.Kids {
		kids = append(kids, placeless(kid))
	}
	t.Kids = kids
	return t
}

// short cuts a text that is too long to be told.
func short(s string) string { return s[:min(len(s), 200)] }

// told holds a term's tree against the one that is wanted, alone and as both parts of a declaration.
func told(t *testing.T, s string, want api.Tree) {
	t.Helper()
	got, at, e := Term(s)
	if e != api.OK || at != 0 || !alike(got, want) {
		t.Errorf("Term(%q) = %v, %d, %d, not %v", short(s), got, at, e, want)
	}
	file := "d : " + s + " = " + s + ";"
	decls, at, e := Parse(file)
	second := len("d : " + s + " = ")
	wanted := called(Decl, "d", 0, moved(want, 4), moved(want, second))
	if e != api.OK || at != 0 || len(decls) != 1 || !alike(decls[0], wanted) {
		t.Errorf("Parse(%q) = %v, %d, %d, not %v", short(file), decls, at, e, wanted)
	}
}

// moved tells a tree that begins so many bytes further on.
func moved(t api.Tree, by int) api.Tree {
	t.At += by
	var kids []api.Tree
	for _, kid := range t.Kids {
		kids = append(kids, moved(kid, by))
	}
	t.Kids = kids
	return t
}

// refused holds the refusal of a term against the one that is wanted.
func refused(t *testing.T, s string, wantAt int, want api.Errno) {
	t.Helper()
	got, at, e := Term(s)
	if e != want || at != wantAt || !alike(got, api.Tree{}) {
		t.Errorf("Term(%q) = %v, %d, %d, not refused at %d with %d", short(s), got, at, e, wantAt, want)
	}
}

// refusedFile holds the refusal of a file against the one that is wanted.
func refusedFile(t *testing.T, s string, wantAt int, want api.Errno) {
	t.Helper()
	got, at, e := Parse(s)
	if e != want || at != wantAt || len(got) != 0 {
		t.Errorf("Parse(%q) = %v, %d, %d, not refused at %d with %d", short(s), got, at, e, wantAt, want)
	}
}

// P7.1: each line of the grammar, its tree and its places.

func TestKinds(t *testing.T) {
	for k, kind := range []int{Name, Lam, PLam, Pi, Sigma, App, At, Pair, Ann, Box, Elem, Face, Eq, Or, And, Not, Digit, Decl} {
		if kind != k+1 {
			t.Errorf("the kind %d is %d", k+1, kind)
		}
	}
}

func TestExample(t *testing.T) {
	told(t, `\x. f x @ i`, naming(Lam, "x", 0, node(At, 4, node(App, 4, nm("f", 4), nm("x", 6)), nm("i", 10))))
	told(t, "(x : A) -> B", naming(Pi, "x", 0, nm("A", 5), nm("B", 11)))
	told(t, "(x : A) y", node(App, 0, node(Ann, 0, nm("x", 1), nm("A", 5)), nm("y", 8)))
	refused(t, "f )", 2, api.ErrForm)
}

func TestNames(t *testing.T) {
	for _, s := range []string{"x", "_", "U", "x1", "Pi", "a_long_name_0"} {
		told(t, s, nm(s, 0))
		told(t, " \n"+s+" -- c\n", nm(s, 2))
	}
}

func TestLam(t *testing.T) {
	told(t, `\x. y`, naming(Lam, "x", 0, nm("y", 4)))
	told(t, `  \x.y`, naming(Lam, "x", 2, nm("y", 5)))
	told(t, `\x y x. y`, naming(Lam, "x y x", 0, nm("y", 8)))
	told(t, `\x. \y. x`, naming(Lam, "x", 0, naming(Lam, "y", 4, nm("x", 8))))
	told(t, `\x. A -> B`, naming(Lam, "x", 0, node(Pi, 4, nm("A", 4), nm("B", 9))))
	told(t, `\ x . <i> (x : A) * B`, naming(Lam, "x", 0, naming(PLam, "i", 6, naming(Sigma, "x", 10, nm("A", 15), nm("B", 20)))))
	told(t, `A -> \x. x`, node(Pi, 0, nm("A", 0), naming(Lam, "x", 5, nm("x", 9))))
}

func TestPLam(t *testing.T) {
	told(t, "<i> y", naming(PLam, "i", 0, nm("y", 4)))
	told(t, "<i j k>y", naming(PLam, "i j k", 0, nm("y", 7)))
	told(t, " < i > <j> p @ i @ j", naming(PLam, "i", 1, naming(PLam, "j", 7, node(At, 11, node(At, 11, nm("p", 11), nm("i", 15)), nm("j", 19)))))
	told(t, "<i> f x", naming(PLam, "i", 0, node(App, 4, nm("f", 4), nm("x", 6))))
}

func TestArrows(t *testing.T) {
	for _, x := range []struct {
		sign string
		kind int
	}{{"->", Pi}, {"* ", Sigma}} {
		told(t, "(x : A) "+x.sign+" B", naming(x.kind, "x", 0, nm("A", 5), nm("B", 11)))
		told(t, "A "+x.sign+" B", node(x.kind, 0, nm("A", 0), nm("B", 5)))
		told(t, "A "+x.sign+" B -> C", node(x.kind, 0, nm("A", 0), node(Pi, 5, nm("B", 5), nm("C", 10))))
		told(t, "A "+x.sign+" B * C", node(x.kind, 0, nm("A", 0), node(Sigma, 5, nm("B", 5), nm("C", 9))))
		told(t, "(A -> B) "+x.sign+" C", node(x.kind, 1, node(Pi, 1, nm("A", 1), nm("B", 6)), nm("C", 12)))
		told(t, "f x "+x.sign+" g y", node(x.kind, 0, node(App, 0, nm("f", 0), nm("x", 2)), node(App, 7, nm("g", 7), nm("y", 9))))
		told(t, " f @ i "+x.sign+" B", node(x.kind, 1, node(At, 1, nm("f", 1), nm("i", 5)), nm("B", 10)))
		told(t, "(x, y) "+x.sign+" B", node(x.kind, 0, node(Pair, 0, nm("x", 1), nm("y", 4)), nm("B", 10)))
		told(t, "[] "+x.sign+" B", node(x.kind, 0, node(Box, 0), nm("B", 6)))
		told(t, "(x : A) "+x.sign+" (y : B) -> C", naming(x.kind, "x", 0, nm("A", 5), naming(Pi, "y", 11, nm("B", 16), nm("C", 22))))
		told(t, "(x : (y : A) -> B) "+x.sign+" C", naming(x.kind, "x", 0, naming(Pi, "y", 5, nm("A", 10), nm("B", 16)), nm("C", 22)))
		told(t, "(x : (y : A)) "+x.sign+" C", naming(x.kind, "x", 0, node(Ann, 5, nm("y", 6), nm("A", 10)), nm("C", 17)))
		told(t, "(x : f (y) [(i=0) -> (z)]) "+x.sign+" C", naming(x.kind, "x", 0,
			node(App, 5, node(App, 5, nm("f", 5), nm("y", 8)), node(Box, 11, node(Elem, 12, node(Face, 12, eq("i", "0", 12)), nm("z", 22)))), nm("C", 30)))
	}
}

// What begins with `(` NAME `:` is an atom, unless an arrow is right behind its `)`.
func TestBinderOrAnn(t *testing.T) {
	ann := func(at int) api.Tree { return node(Ann, at, nm("x", at+1), nm("A", at+5)) }
	told(t, "(x : A)", ann(0))
	told(t, "(x : A) y", node(App, 0, ann(0), nm("y", 8)))
	told(t, "(x : A) y -> B", node(Pi, 0, node(App, 0, ann(0), nm("y", 8)), nm("B", 13)))
	told(t, "(x : A) (y : B) -> C", node(Pi, 0, node(App, 0, ann(0), node(Ann, 8, nm("y", 9), nm("B", 13))), nm("C", 19)))
	told(t, "(x : A) @ i * B", node(Sigma, 0, node(At, 0, ann(0), nm("i", 10)), nm("B", 14)))
	told(t, "((x : A)) -> B", node(Pi, 1, ann(1), nm("B", 13)))
	told(t, "((x : A)) * B", node(Sigma, 1, ann(1), nm("B", 12)))
	told(t, "((x : A) -> B)", naming(Pi, "x", 1, nm("A", 6), nm("B", 12)))
	told(t, "f (x : A) -> B", node(Pi, 0, node(App, 0, nm("f", 0), ann(2)), nm("B", 13)))
	told(t, "((x) : A) -> B", node(Pi, 0, node(Ann, 0, nm("x", 2), nm("A", 7)), nm("B", 13)))
	told(t, "(f x : A) -> B", node(Pi, 0, node(Ann, 0, node(App, 1, nm("f", 1), nm("x", 3)), nm("A", 7)), nm("B", 13)))
	told(t, "(x : A -> B)", node(Ann, 0, nm("x", 1), node(Pi, 5, nm("A", 5), nm("B", 10))))
	told(t, "(x : (A) -> B) y", node(App, 0, node(Ann, 0, nm("x", 1), node(Pi, 6, nm("A", 6), nm("B", 12))), nm("y", 15)))
	told(t, "(x : A) -> (y : B)", naming(Pi, "x", 0, nm("A", 5), node(Ann, 11, nm("y", 12), nm("B", 16))))
	told(t, `(\x. x : A -> B)`, node(Ann, 0, naming(Lam, "x", 1, nm("x", 5)), node(Pi, 9, nm("A", 9), nm("B", 14))))
}

func TestApps(t *testing.T) {
	told(t, "f x", node(App, 0, nm("f", 0), nm("x", 2)))
	told(t, "f x y", node(App, 0, node(App, 0, nm("f", 0), nm("x", 2)), nm("y", 4)))
	told(t, "f (x y)", node(App, 0, nm("f", 0), node(App, 3, nm("x", 3), nm("y", 5))))
	told(t, "(f x) y", node(App, 1, node(App, 1, nm("f", 1), nm("x", 3)), nm("y", 6)))
	told(t, "f(x)(y,z)[]", node(App, 0, node(App, 0, node(App, 0, nm("f", 0), nm("x", 2)), node(Pair, 4, nm("y", 5), nm("z", 7))), node(Box, 9)))
	told(t, "f (x : A)", node(App, 0, nm("f", 0), node(Ann, 2, nm("x", 3), nm("A", 7))))
	told(t, `(\x. x) y`, node(App, 1, naming(Lam, "x", 1, nm("x", 5)), nm("y", 8)))
	told(t, "[] x", node(App, 0, node(Box, 0), nm("x", 3)))
}

func TestAts(t *testing.T) {
	told(t, "p @ i", node(At, 0, nm("p", 0), nm("i", 4)))
	told(t, "f x @ i", node(At, 0, node(App, 0, nm("f", 0), nm("x", 2)), nm("i", 6)))
	told(t, "p @ i x", node(App, 0, node(At, 0, nm("p", 0), nm("i", 4)), nm("x", 6)))
	told(t, "p @ 0 (x) @ 1 @ j", node(At, 0, node(At, 0, node(App, 0, node(At, 0, nm("p", 0), called(Digit, "0", 4)), nm("x", 7)), called(Digit, "1", 12)), nm("j", 16)))
	told(t, "p@0x", node(App, 0, node(At, 0, nm("p", 0), called(Digit, "0", 2)), nm("x", 3)))
	told(t, "p @ (i) (j)", node(App, 0, node(At, 0, nm("p", 0), nm("i", 5)), nm("j", 9)))
	told(t, "p @ i []", node(App, 0, node(At, 0, nm("p", 0), nm("i", 4)), node(Box, 6)))
	told(t, "(p @ i) @ j", node(At, 1, node(At, 1, nm("p", 1), nm("i", 5)), nm("j", 10)))
	told(t, "<i> p @ i -> B", naming(PLam, "i", 0, node(Pi, 4, node(At, 4, nm("p", 4), nm("i", 8)), nm("B", 13))))
}

func TestDims(t *testing.T) {
	at := func(s string, want api.Tree) {
		t.Helper()
		told(t, "p @ "+s, node(At, 0, nm("p", 0), want))
	}
	at("i", nm("i", 4))
	at("0", called(Digit, "0", 4))
	at("1", called(Digit, "1", 4))
	at("~i", node(Not, 4, nm("i", 5)))
	at("~ ~0", node(Not, 4, node(Not, 6, called(Digit, "0", 7))))
	at("~(i)", node(Not, 4, nm("i", 6)))
	at("(~i)", node(Not, 5, nm("i", 6)))
	at("((i))", nm("i", 6))
	at(`(i /\ j)`, node(And, 5, nm("i", 5), nm("j", 10)))
	at(`(i \/ j)`, node(Or, 5, nm("i", 5), nm("j", 10)))
	at(`(i /\ j /\ k)`, node(And, 5, node(And, 5, nm("i", 5), nm("j", 10)), nm("k", 15)))
	at(`(i \/ j \/ k)`, node(Or, 5, node(Or, 5, nm("i", 5), nm("j", 10)), nm("k", 15)))
	at(`(i /\ (j /\ k))`, node(And, 5, nm("i", 5), node(And, 11, nm("j", 11), nm("k", 16))))
	at(`(i \/ (j \/ k))`, node(Or, 5, nm("i", 5), node(Or, 11, nm("j", 11), nm("k", 16))))
	at(`(i \/ j /\ k)`, node(Or, 5, nm("i", 5), node(And, 10, nm("j", 10), nm("k", 15))))
	at(`(i /\ j \/ k)`, node(Or, 5, node(And, 5, nm("i", 5), nm("j", 10)), nm("k", 15)))
	at(`((i \/ j) /\ k)`, node(And, 6, node(Or, 6, nm("i", 6), nm("j", 11)), nm("k", 17)))
	at(`(~i /\ j \/ ~0)`, node(Or, 5, node(And, 5, node(Not, 5, nm("i", 6)), nm("j", 11)), node(Not, 16, called(Digit, "0", 17))))
	at(`~(i /\ j)`, node(Not, 4, node(And, 6, nm("i", 6), nm("j", 11))))
	at(`((i) \/ j)`, node(Or, 6, nm("i", 6), nm("j", 12)))
}

func TestPairsAndAnns(t *testing.T) {
	told(t, "(x, y)", node(Pair, 0, nm("x", 1), nm("y", 4)))
	told(t, " (x,y)", node(Pair, 1, nm("x", 2), nm("y", 4)))
	told(t, "((x, y), z)", node(Pair, 0, node(Pair, 1, nm("x", 2), nm("y", 5)), nm("z", 9)))
	told(t, "(x, (y, z))", node(Pair, 0, nm("x", 1), node(Pair, 4, nm("y", 5), nm("z", 8))))
	told(t, `(\x. x, A -> B)`, node(Pair, 0, naming(Lam, "x", 1, nm("x", 5)), node(Pi, 8, nm("A", 8), nm("B", 13))))
	told(t, "((x : A) -> B, y)", node(Pair, 0, naming(Pi, "x", 1, nm("A", 6), nm("B", 12)), nm("y", 15)))
	told(t, "(x : A)", node(Ann, 0, nm("x", 1), nm("A", 5)))
	told(t, "((x : A) : B)", node(Ann, 0, node(Ann, 1, nm("x", 2), nm("A", 6)), nm("B", 11)))
	told(t, "((x : A) * B : U)", node(Ann, 0, naming(Sigma, "x", 1, nm("A", 6), nm("B", 11)), nm("U", 15)))
	told(t, "([] : <i> A)", node(Ann, 0, node(Box, 1), naming(PLam, "i", 6, nm("A", 10))))
}

func TestBoxes(t *testing.T) {
	one := func(at int) api.Tree { return node(Elem, at, node(Face, at)) }
	told(t, "[]", node(Box, 0))
	told(t, " [ ]", node(Box, 1))
	told(t, "[1]", node(Box, 0, one(1)))
	told(t, "[1 -> x]", node(Box, 0, node(Elem, 1, node(Face, 1), nm("x", 6))))
	told(t, "[(i=0)]", node(Box, 0, node(Elem, 1, node(Face, 1, eq("i", "0", 1)))))
	told(t, "[(i = 1) -> x]", node(Box, 0, node(Elem, 1, node(Face, 1, eq("i", "1", 1)), nm("x", 12))))
	told(t, "[(i=0)(j = 1)( k=0) -> \\x. x, 1, 1 -> A -> B, (i=1)]", node(Box, 0,
		node(Elem, 1, node(Face, 1, eq("i", "0", 1), eq("j", "1", 6), eq("k", "0", 13)), naming(Lam, "x", 23, nm("x", 27))),
		one(30),
		node(Elem, 33, node(Face, 33), node(Pi, 38, nm("A", 38), nm("B", 43))),
		node(Elem, 46, node(Face, 46, eq("i", "1", 46)))))
	told(t, "[1, 1, 1]", node(Box, 0, one(1), one(4), one(7)))
	told(t, "[1 -> [1 -> []]]", node(Box, 0, node(Elem, 1, node(Face, 1), node(Box, 6, node(Elem, 7, node(Face, 7), node(Box, 12))))))
	told(t, "[1 -> (x : A) -> B]", node(Box, 0, node(Elem, 1, node(Face, 1), naming(Pi, "x", 6, nm("A", 11), nm("B", 17)))))
	told(t, "[(i=0)(i=0) -> f @ i]", node(Box, 0, node(Elem, 1, node(Face, 1, eq("i", "0", 1), eq("i", "0", 6)), node(At, 15, nm("f", 15), nm("i", 19)))))
	told(t, "hcomp A [(i=0) -> <j> x] y", node(App, 0, node(App, 0, node(App, 0, nm("hcomp", 0), nm("A", 6)),
		node(Box, 8, node(Elem, 9, node(Face, 9, eq("i", "0", 9)), naming(PLam, "j", 18, nm("x", 22))))), nm("y", 25)))
}

func TestFiles(t *testing.T) {
	for _, x := range []struct {
		s    string
		want []api.Tree
	}{
		{"", nil},
		{" \n\t-- only a comment", nil},
		{"f:U=U;", []api.Tree{called(Decl, "f", 0, nm("U", 2), nm("U", 4))}},
		{"f : U = U; -- c\ng : f = x y;", []api.Tree{
			called(Decl, "f", 0, nm("U", 4), nm("U", 8)),
			called(Decl, "g", 16, nm("f", 20), node(App, 24, nm("x", 24), nm("y", 26)))}},
		{"\n f : (x : A) -> B = \\x. x ;f : U = (U : U);f : [] = <i> p @ 0;", []api.Tree{
			called(Decl, "f", 2, naming(Pi, "x", 6, nm("A", 11), nm("B", 17)), naming(Lam, "x", 21, nm("x", 25))),
			called(Decl, "f", 28, nm("U", 32), node(Ann, 36, nm("U", 37), nm("U", 41))),
			called(Decl, "f", 44, node(Box, 48), naming(PLam, "i", 53, node(At, 57, nm("p", 57), called(Digit, "0", 61))))}},
	} {
		got, at, e := Parse(x.s)
		if e != api.OK || at != 0 || !reflect.DeepEqual(bareAll(got), bareAll(x.want)) {
			t.Errorf("Parse(%q) = %v, %d, %d, not %v", x.s, got, at, e, x.want)
		}
	}
	s := strings.Repeat("d:U=x;", 10000)
	got, at, e := Parse(s)
	if e != api.OK || at != 0 || len(got) != 10000 {
		t.Fatalf("%d declarations, %d, %d", len(got), at, e)
	}
	for k, d := range got {
		if !alike(d, called(Decl, "d", 6*k, nm("U", 6*k+2), nm("x", 6*k+4))) {
			t.Fatalf("the declaration %d is %v", k, d)
		}
	}
}
