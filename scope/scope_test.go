package scope

import (
	"slices"
	"strconv"
	"strings"
	"testing"

	"hypercube/api"
	"hypercube/sample"
	"hypercube/tree"
)

// kindNames are those of the kinds of terms.
var kindNames = []string{
	api.Var: "Var", api.Const: "Const", api.Univ: "Univ", api.Pi: "Pi", api.Lam: "Lam", api.App: "App", api.Sigma: "Sigma", api.Pair: "Pair", api.Fst: "Fst", api.Snd: "Snd",
	api.Path: "Path", api.PLam: "PLam", api.PApp: "PApp", api.Transp: "Transp", api.HComp: "HComp", api.Glue: "Glue", api.MkGlue: "MkGlue", api.Unglue: "Unglue",
	api.Circle: "Circle", api.Base: "Base", api.Loop: "Loop", api.CircleEl: "CircleEl", api.Susp: "Susp", api.North: "North", api.South: "South", api.Merid: "Merid", api.SuspEl: "SuspEl", api.The: "The",
}

// shown tells a term as a text, with all its fields that are not zero: terms are the same just if their texts are.
func shown(t api.Term) string {
	s := "Kind " + strconv.Itoa(t.Kind)
	if t.Kind > 0 && t.Kind < len(kindNames) {
		s = kindNames[t.Kind]
	}
	if t.Kind == api.Var || t.N != 0 {
		s += " " + strconv.Itoa(t.N)
	}
	if t.Name != "" {
		s += " " + t.Name
	}
	if len(t.R) > 0 {
		s += " at " + shownRow(t.R)
	}
	if len(t.Kids) > 0 {
		s += "(" + shownAll(t.Kids) + ")"
	}
	var branches []string
	for _, b := range t.Sys {
		branches = append(branches, shownRow(b.Face)+": "+shownAll(b.Kids))
	}
	if len(branches) > 0 {
		s += "[" + strings.Join(branches, "; ") + "]"
	}
	return s
}

func shownAll(l []api.Term) string {
	var out []string
	for _, t := range l {
		out = append(out, shown(t))
	}
	return strings.Join(out, ", ")
}

func shownRow(row []api.Clause) string {
	var clauses []string
	for _, c := range row {
		var literals []string
		for i := range 32 {
			if c.Pos>>i&1 == 1 {
				literals = append(literals, strconv.Itoa(i))
			}
			if c.Neg>>i&1 == 1 {
				literals = append(literals, "-"+strconv.Itoa(i))
			}
		}
		if len(literals) == 0 {
			literals = []string{"always"}
		}
		clauses = append(clauses, strings.Join(literals, "&"))
	}
	return strings.Join(clauses, "|")
}

// short cuts a text that is too long to be told.
func short(s string) string { return s[:min(len(s), 300)] }

// given are names of all three sorts, each sort put as one text.
type given struct{ globals, vars, dims string }

func (g given) resolve(x api.Tree) (api.Term, int, api.Errno) {
	return Resolve(x, strings.Fields(g.globals), strings.Fields(g.vars), strings.Fields(g.dims))
}

// read tells the tree of a text that is one.
func read(t *testing.T, s string) api.Tree {
	t.Helper()
	out, at, e := tree.Term(s)
	if e != api.OK {
		t.Fatalf("%q is no term: %d, %d", s, at, e)
	}
	return out
}

// told holds a text's term against its own text, and against what may be.
func told(t *testing.T, g given, s, want string) {
	t.Helper()
	toldTree(t, g, s, read(t, s), want)
}

func toldTree(t *testing.T, g given, why string, x api.Tree, want string) {
	t.Helper()
	got, at, e := g.resolve(x)
	if s := shown(got); s != want || at != 0 || e != api.OK {
		t.Errorf("%q in %v = %s, %d, %d, not %s", short(why), g, short(s), at, e, short(want))
	}
	if !sample.MayBe(got, len(strings.Fields(g.vars)), len(strings.Fields(g.dims))) {
		t.Errorf("%q in %v = %s may not be", short(why), g, short(shown(got)))
	}
}

// refused holds a text against a refusal at a part of its tree, which is told by the numbers of Kids that lead there: by the text's places, and by places that are others for all parts.
func refused(t *testing.T, g given, s, path string, want api.Errno) {
	t.Helper()
	x := read(t, s)
	refusedAt(t, g, s, x, part(x, path).At, want)
	next := 1000
	x = numbered(x, &next)
	refusedAt(t, g, s, x, part(x, path).At, want)
}

func refusedAt(t *testing.T, g given, why string, x api.Tree, place int, want api.Errno) {
	t.Helper()
	got, at, e := g.resolve(x)
	if s := shown(got); s != "Kind 0" || at != place || e != want {
		t.Errorf("%q in %v = %s, %d, %d, not refused at %d with %d", short(why), g, short(s), at, e, place, want)
	}
}

// part tells the part of a tree to which the numbers of Kids lead.
func part(t api.Tree, path string) api.Tree {
	for _, k := range strings.Fields(path) {
		n, _ := strconv.Atoi(k)
		t = t.Kids[n]
	}
	return t
}

// numbered tells a tree with a place of its own for each part, so that no part shares one with what it stands in.
func numbered(t api.Tree, next *int) api.Tree {
	t.At = *next
	*next += 7
	t.Kids = slices.Clone(t.Kids)
	for k := range t.Kids {
		t.Kids[k] = numbered(t.Kids[k], next)
	}
	return t
}

// node tells a tree without a name and without names.
func node(kind int, kids ...api.Tree) api.Tree { return api.Tree{Kind: kind, Kids: kids} }

func nm(name string) api.Tree { return api.Tree{Kind: tree.Name, Name: name} }

// naming tells a tree with names, which are put as one text.
func naming(kind int, names string, kids ...api.Tree) api.Tree {
	return api.Tree{Kind: kind, Names: strings.Fields(names), Kids: kids}
}

// P9.1.

func TestExample(t *testing.T) {
	told(t, given{}, `\x. x`, "Lam(Var 0)")
	told(t, given{}, "<i> loop @ ~i", "PLam(Loop at -0)")
	refused(t, given{}, "x", "", api.ErrScope)
}

// A tree of each kind, in names of all three sorts.
func TestKinds(t *testing.T) {
	g := given{globals: "c d", vars: "x y", dims: "i j"}
	for s, want := range map[string]string{
		"x": "Var 0", "y": "Var 1", "c": "Const c", "d": "Const d",
		"U": "Univ", "S1": "Circle", "base": "Base", "north": "North", "south": "South",
		`\z. z`: "Lam(Var 0)", `\z. x`: "Lam(Var 1)", `\z. y`: "Lam(Var 2)", `\z. c`: "Lam(Const c)",
		"<k> x": "PLam(Var 0)", "<k> x @ k": "PLam(PApp at 0(Var 0, Univ, Univ))", "<k> x @ i": "PLam(PApp at 1(Var 0, Univ, Univ))", "<k> x @ j": "PLam(PApp at 2(Var 0, Univ, Univ))",
		"(z : x) -> z": "Pi(Var 0, Var 0)", "(z : x) -> x": "Pi(Var 0, Var 1)", "(z : c) -> y": "Pi(Const c, Var 2)", "x -> x": "Pi(Var 0, Var 1)", "y -> y": "Pi(Var 1, Var 2)", "U -> c": "Pi(Univ, Const c)",
		"(z : x) * z": "Sigma(Var 0, Var 0)", "(z : x) * x": "Sigma(Var 0, Var 1)", "(z : c) * y": "Sigma(Const c, Var 2)", "x * x": "Sigma(Var 0, Var 1)", "y * y": "Sigma(Var 1, Var 2)", "U * c": "Sigma(Univ, Const c)",
		"x y": "App(Var 0, Var 1)", "c d": "App(Const c, Const d)", "x y c": "App(App(Var 0, Var 1), Const c)", "x (y c)": "App(Var 0, App(Var 1, Const c))", "U x": "App(Univ, Var 0)", "S1 base north": "App(App(Circle, Base), North)",
		"x @ i": "PApp at 0(Var 0, Univ, Univ)", "c @ j": "PApp at 1(Const c, Univ, Univ)", "x y @ 1": "PApp at always(App(Var 0, Var 1), Univ, Univ)", "x @ 0": "PApp(Var 0, Univ, Univ)", "U @ 0": "PApp(Univ, Univ, Univ)", "base @ i": "PApp at 0(Base, Univ, Univ)",
		"x @ i @ j": "PApp at 1(PApp at 0(Var 0, Univ, Univ), Univ, Univ)", "x @ i y": "App(PApp at 0(Var 0, Univ, Univ), Var 1)",
		"loop @ i": "Loop at 0", "loop @ 0": "Loop", "loop @ 1": "Loop at always", "merid x @ j": "Merid at 1(Var 0)", "merid x @ 0": "Merid(Var 0)",
		"(x, y)": "Pair(Var 0, Var 1)", "(x, (y, c))": "Pair(Var 0, Pair(Var 1, Const c))", "((x, y), c)": "Pair(Pair(Var 0, Var 1), Const c)",
		"(x : y)": "The(Var 0, Var 1)", "(c : U)": "The(Const c, Univ)", "((x : y) : U)": "The(The(Var 0, Var 1), Univ)",
	} {
		told(t, g, s, want)
	}
}

func TestVariables(t *testing.T) {
	// No variable, one and several.
	refused(t, given{}, "x", "", api.ErrScope)
	told(t, given{vars: "x"}, "x", "Var 0")
	for k, s := range []string{"a", "b", "d", "e", "f"} {
		told(t, given{vars: "a b d e f"}, s, "Var "+strconv.Itoa(k))
		told(t, given{vars: "a b d e f"}, `\z. `+s, "Lam(Var "+strconv.Itoa(k+1)+")")
		told(t, given{vars: "a b d e f"}, `\z y. U -> `+s, "Lam(Lam(Pi(Univ, Var "+strconv.Itoa(k+3)+")))")
	}
	// Of a name that is there twice the first one counts.
	told(t, given{vars: "x x"}, "x", "Var 0")
	told(t, given{vars: "y x y x z x"}, "x y z", "App(App(Var 1, Var 0), Var 4)")
	// A variable is ahead of a global, however far out it is.
	told(t, given{globals: "x", vars: "x"}, "x", "Var 0")
	told(t, given{globals: "y x", vars: "a b x"}, "x y", "App(Var 2, Const y)")
	told(t, given{globals: "x"}, `\x. x`, "Lam(Var 0)")
	told(t, given{globals: "x"}, `\y. x`, "Lam(Const x)")
	told(t, given{globals: "x x y y"}, "x y", "App(Const x, Const y)")
	// Dimensions are no variables, and variables are no dimensions.
	told(t, given{globals: "a", vars: "b x", dims: "a x b"}, "x @ x", "PApp at 1(Var 1, Univ, Univ)")
	told(t, given{globals: "a", vars: "b x", dims: "a x b"}, "a @ a", "PApp at 0(Const a, Univ, Univ)")
	told(t, given{globals: "a", vars: "b x", dims: "a x b"}, "b @ b", "PApp at 2(Var 0, Univ, Univ)")
	told(t, given{}, `\x. <x> x @ x`, "Lam(PLam(PApp at 0(Var 0, Univ, Univ)))")
	told(t, given{}, `<x> \x. x @ x`, "PLam(Lam(PApp at 0(Var 0, Univ, Univ)))")
	told(t, given{vars: "x", dims: "x"}, `<y> \y. x @ x`, "PLam(Lam(PApp at 1(Var 1, Univ, Univ)))")
	refused(t, given{dims: "x"}, "x", "", api.ErrScope)
	refused(t, given{}, "<x> x", "0", api.ErrScope)
	refused(t, given{globals: "c", vars: "x"}, "x @ x", "1", api.ErrScope)
	refused(t, given{globals: "c", vars: "x"}, "x @ c", "1", api.ErrScope)
	refused(t, given{}, `\x. loop @ x`, "0 1", api.ErrScope)
	// Names that no tree has are let be.
	told(t, given{globals: "0 ->", vars: "( x 1", dims: "= i"}, "x @ i", "PApp at 1(Var 1, Univ, Univ)")
	if got, at, e := Resolve(read(t, "U -> x"), []string{""}, []string{"", "x", ""}, []string{""}); shown(got) != "Pi(Univ, Var 2)" || at != 0 || e != api.OK {
		t.Errorf("empty names: %s, %d, %d", shown(got), at, e)
	}
	for _, g := range []given{{globals: "c"}, {vars: "x"}, {dims: "i"}, {globals: "c", vars: "x y", dims: "i j"}} {
		for _, s := range []string{"z", "X", "x0", "_", "xx", "k", "u", "s1", "Loop", "Hcomp", "path", "Fst"} {
			refused(t, g, s, "", api.ErrScope)
			refused(t, g, "U "+s, "1", api.ErrScope)
		}
	}
}

func TestLams(t *testing.T) {
	g := given{globals: "c", vars: "x y", dims: "i j"}
	told(t, g, `\x. x y`, "Lam(App(Var 0, Var 2))")
	told(t, g, `\a b. a b x y`, "Lam(Lam(App(App(App(Var 1, Var 0), Var 2), Var 3)))")
	told(t, g, `\a b d. a b d`, "Lam(Lam(Lam(App(App(Var 2, Var 1), Var 0))))")
	told(t, g, `\a a. a x`, "Lam(Lam(App(Var 0, Var 2)))")
	told(t, g, `\a b a b b. a b x`, "Lam(Lam(Lam(Lam(Lam(App(App(Var 2, Var 0), Var 5))))))")
	told(t, g, `\c. c`, "Lam(Var 0)")
	told(t, g, `\i. i @ i`, "Lam(PApp at 0(Var 0, Univ, Univ))")
	told(t, g, "<i> x @ i y @ j", "PLam(PApp at 2(App(PApp at 0(Var 0, Univ, Univ), Var 1), Univ, Univ))")
	told(t, g, "<a b> x @ a @ b @ i", "PLam(PLam(PApp at 2(PApp at 0(PApp at 1(Var 0, Univ, Univ), Univ, Univ), Univ, Univ)))")
	told(t, g, "<a a> x @ a @ i", "PLam(PLam(PApp at 2(PApp at 0(Var 0, Univ, Univ), Univ, Univ)))")
	told(t, g, "<a b a> loop @ b", "PLam(PLam(PLam(Loop at 1)))")
	told(t, g, "<i> <j> <i> loop @ (i /\\ ~j)", "PLam(PLam(PLam(Loop at 0&-1)))")
	// A name means what it meant ahead of the binder again, behind it.
	told(t, g, `(\x. x) x`, "App(Lam(Var 0), Var 0)")
	told(t, g, `(\a b a. a) y`, "App(Lam(Lam(Lam(Var 0))), Var 1)")
	told(t, g, `(\c. c) c`, "App(Lam(Var 0), Const c)")
	refused(t, g, `(\a. a) a`, "1", api.ErrScope)
	refused(t, g, `(\a b a. a) a`, "1", api.ErrScope)
	told(t, g, "(<i> loop @ i, loop @ i)", "Pair(PLam(Loop at 0), Loop at 0)")
	told(t, g, "(<k j k> loop @ j, loop @ j)", "Pair(PLam(PLam(PLam(Loop at 1))), Loop at 1)")
	refused(t, g, "(<k> loop @ k, loop @ k)", "1 1", api.ErrScope)
	told(t, g, `(\x. (\x. x) x) x`, "App(Lam(App(Lam(Var 0), Var 0)), Var 0)")
}

func TestArrows(t *testing.T) {
	g := given{globals: "c", vars: "x y", dims: "i"}
	for sign, kind := range map[string]string{" -> ": "Pi", " * ": "Sigma"} {
		// The Name means nothing in the first part, and nothing behind.
		told(t, g, "(x : x)"+sign+"x", kind+"(Var 0, Var 0)")
		told(t, g, "(y : y)"+sign+"x y", kind+"(Var 1, App(Var 1, Var 0))")
		told(t, g, "((x : U)"+sign+"x) x", "App("+kind+"(Univ, Var 0), Var 0)")
		told(t, g, "(c : c)"+sign+"c", kind+"(Const c, Var 0)")
		told(t, g, "(i : U)"+sign+"i @ i", kind+"(Univ, PApp at 0(Var 0, Univ, Univ))")
		told(t, g, "(a : x)"+sign+"(b : a)"+sign+"a b x", kind+"(Var 0, "+kind+"(Var 0, App(App(Var 1, Var 0), Var 2)))")
		told(t, g, "(a : U)"+sign+"(a : a)"+sign+"a", kind+"(Univ, "+kind+"(Var 0, Var 0))")
		told(t, g, "x"+sign+"x"+sign+"x", kind+"(Var 0, "+kind+"(Var 1, Var 2))")
		told(t, g, "(x"+sign+"x)"+sign+"x", kind+"("+kind+"(Var 0, Var 1), Var 1)")
		told(t, g, "(a : x)"+sign+"x"+sign+"a", kind+"(Var 0, "+kind+"(Var 1, Var 1))")
		told(t, g, "(x"+sign+"y) x", "App("+kind+"(Var 0, Var 2), Var 0)")
		refused(t, g, "(a : a)"+sign+"a", "0", api.ErrScope)
		refused(t, g, "((a : U)"+sign+"a) a", "1", api.ErrScope)
		refused(t, g, "a"+sign+"U", "0", api.ErrScope)
		refused(t, g, "U"+sign+"a", "1", api.ErrScope)
	}
}

func TestFormulas(t *testing.T) {
	g := given{dims: "i j k"}
	for s, want := range map[string]string{
		"0": "Loop", "1": "Loop at always", "i": "Loop at 0", "k": "Loop at 2", "~i": "Loop at -0", "~~j": "Loop at 1", "~0": "Loop at always", "~1": "Loop", "~~0": "Loop",
		`(i /\ j)`: "Loop at 0&1", `(i \/ j)`: "Loop at 0|1", `(j \/ i)`: "Loop at 0|1", `(i /\ ~i)`: "Loop at 0&-0", `(i \/ ~i)`: "Loop at -0|0", `(i /\ i)`: "Loop at 0", `(i \/ i /\ j)`: "Loop at 0",
		`(i /\ 0)`: "Loop", `(i /\ 1)`: "Loop at 0", `(i \/ 0)`: "Loop at 0", `(i \/ 1)`: "Loop at always",
		`~(i /\ j)`: "Loop at -0|-1", `~(i \/ j)`: "Loop at -0&-1", `~(i /\ ~j)`: "Loop at -0|1", `(i /\ (j \/ k))`: "Loop at 0&1|0&2", `((i \/ j) /\ k)`: "Loop at 0&2|1&2", `(i \/ j /\ k)`: "Loop at 0|1&2",
		`(~i /\ (j \/ ~k) /\ 1)`: "Loop at -0&-2|-0&1",
	} {
		told(t, g, "loop @ "+s, want)
		told(t, given{vars: "a", dims: g.dims}, "merid a @ "+s, strings.Replace(want, "Loop", "Merid", 1)+"(Var 0)")
		told(t, given{vars: "a", dims: g.dims}, "a @ "+s, strings.Replace(want, "Loop", "PApp", 1)+"(Var 0, Univ, Univ)")
	}
	// Of a name that is there twice the first one counts.
	told(t, given{dims: "j i j i"}, `loop @ (i /\ ~j)`, "Loop at -0&1")
	for path, s := range map[string]string{
		"": "a", "0": "~a", "0 0": "~~a", "1": `(i /\ a)`, "0 1": `(j \/ a \/ a)`, "1 0": `(i \/ ~a)`, "0 0 1": `((i /\ a) \/ j) \/ U`,
	} {
		refused(t, g, "loop @ ("+s+")", "1 "+path, api.ErrScope)
	}
	// A word is the name of no dimension.
	refused(t, g, "loop @ U", "1", api.ErrScope)
	refused(t, g, "U @ loop", "1", api.ErrScope)
}

func TestPathConstructors(t *testing.T) {
	g := given{globals: "c", vars: "x y", dims: "i j"}
	// Behind `@` just what stands there, in brackets, too.
	told(t, g, "(loop) @ i", "Loop at 0")
	told(t, g, "(merid x) @ i", "Merid at 0(Var 0)")
	told(t, g, "(merid) x @ i", "Merid at 0(Var 0)")
	told(t, g, "merid (merid x @ j) @ i", "Merid at 0(Merid at 1(Var 0))")
	told(t, g, "merid (loop @ j) @ i", "Merid at 0(Loop at 1)")
	told(t, g, "merid (x y) @ i", "Merid at 0(App(Var 0, Var 1))")
	told(t, g, `merid (\z. z x) @ i`, "Merid at 0(Lam(App(Var 0, Var 1)))")
	told(t, g, "loop @ i @ j", "PApp at 1(Loop at 0, Univ, Univ)")
	told(t, g, "merid x @ i @ j", "PApp at 1(Merid at 0(Var 0), Univ, Univ)")
	told(t, g, "loop @ i x", "App(Loop at 0, Var 0)")
	told(t, g, "merid x @ i y", "App(Merid at 0(Var 0), Var 1)")
	told(t, g, "x (loop @ i)", "App(Var 0, Loop at 0)")
	// Not behind it, or with other arguments.
	refused(t, g, "loop", "", api.ErrForm)
	refused(t, g, `\z. loop`, "0", api.ErrForm)
	refused(t, g, "x loop", "1", api.ErrForm)
	refused(t, g, "loop x", "0", api.ErrForm)
	refused(t, g, "loop x y", "0 0", api.ErrForm)
	refused(t, g, "loop x @ i", "0 0", api.ErrForm)
	refused(t, g, "(loop : U) @ i", "0 0", api.ErrForm)
	refused(t, g, "merid", "", api.ErrForm)
	refused(t, g, "merid @ i", "0", api.ErrForm)
	refused(t, g, "merid x", "0", api.ErrForm)
	refused(t, g, "merid x y", "0 0", api.ErrForm)
	refused(t, g, "merid x y @ i", "0 0 0", api.ErrForm)
	refused(t, g, "merid x y c @ i", "0 0 0 0", api.ErrForm)
	refused(t, g, "x (merid y)", "1 0", api.ErrForm)
	refused(t, g, "(merid x : U) @ i", "0 0 0", api.ErrForm)
	refused(t, g, "fst (merid x)", "1 0", api.ErrForm)
}
