package scope

import (
	"maps"
	"slices"
	"strings"
	"testing"

	"hypercube/api"
)

// takes are the words of the language, as the chapter has them.
var takes = map[string]int{
	"U": 0, "S1": 0, "base": 0, "north": 0, "south": 0, "loop": 0, "fst": 1, "snd": 1, "Susp": 1, "unglue": 1, "merid": 1, "glue": 2, "Glue": 2, "Path": 3, "transp": 3, "hcomp": 3, "S1elim": 4, "Suspelim": 5,
}

// all are names of each sort.
var all = given{globals: "c d", vars: "x y z", dims: "i j k"}

// P9.2: each word with just its arguments, and with more.
func TestCalls(t *testing.T) {
	for s, want := range map[string]string{
		"fst x": "Fst(Var 0)", "snd (x, y)": "Snd(Pair(Var 0, Var 1))", "Susp S1": "Susp(Circle)", "unglue x": "Unglue(Var 0)",
		"fst (snd x)": "Fst(Snd(Var 0))", "Susp (Susp c)": "Susp(Susp(Const c))",
		"Path (<a> U) x y":                                                "Path(Univ, Var 0, Var 1)",
		"Path (<a> x @ a @ i) x y":                                        "Path(PApp at 1(PApp at 0(Var 0, Univ, Univ), Univ, Univ), Var 0, Var 1)",
		"Path (<i> x @ i) c (x @ i)":                                      "Path(PApp at 0(Var 0, Univ, Univ), Const c, PApp at 0(Var 0, Univ, Univ))",
		"transp (<a> U) [] x":                                             "Transp(Univ, Var 0)",
		"transp (<a> x @ a) [(i=0)] y":                                    "Transp at -0(PApp at 0(Var 0, Univ, Univ), Var 1)",
		"transp (<i> x @ i) [(i=1)] (y @ i)":                              "Transp at 0(PApp at 0(Var 0, Univ, Univ), PApp at 0(Var 1, Univ, Univ))",
		"hcomp U [] x":                                                    "HComp(Univ, Var 0)",
		"hcomp x [(i=0) -> <a> y] z":                                      "HComp(Var 0, Var 2)[-0: Var 1]",
		"hcomp x [(i=0) -> <a> y @ a, 1 -> <a> y @ i] z":                  "HComp(Var 0, Var 2)[-0: PApp at 0(Var 1, Univ, Univ); always: PApp at 1(Var 1, Univ, Univ)]",
		"hcomp (x @ i) [(i=0)(k=1) -> <i> y @ i, (j=1) -> <k> c] (z @ i)": "HComp(PApp at 0(Var 0, Univ, Univ), PApp at 0(Var 2, Univ, Univ))[-0&2: PApp at 0(Var 1, Univ, Univ); 1: Const c]",
		"Glue U []":                "Glue(Univ)",
		"Glue x [(i=0) -> (y, z)]": "Glue(Var 0)[-0: Var 1, Var 2]",
		"Glue x [1 -> (y, z), (j=1) -> (c, (x, y))]": "Glue(Var 0)[always: Var 1, Var 2; 1: Const c, Pair(Var 0, Var 1)]",
		"glue x []":           "MkGlue(Var 0)",
		"glue x [(i=0) -> y]": "MkGlue(Var 0)[-0: Var 1]",
		"glue x [(i=0)(j=1) -> (y, z), 1 -> <a> y, (k=0) -> y @ k]": "MkGlue(Var 0)[-0&1: Pair(Var 1, Var 2); always: PLam(Var 1); -2: PApp at 2(Var 1, Univ, Univ)]",
		`S1elim (\a. a x) x y z`:                                    "CircleEl(App(Var 0, Var 1), Var 0, Var 1, Var 2)",
		`S1elim (\x. x y) x y (x @ i)`:                              "CircleEl(App(Var 0, Var 2), Var 0, Var 1, PApp at 0(Var 0, Univ, Univ))",
		`Suspelim (\a. a x) x y z c`:                                "SuspEl(App(Var 0, Var 1), Var 0, Var 1, Var 2, Const c)",
		`Suspelim (\z. z x) north south (\z. z) z`:                  "SuspEl(App(Var 0, Var 1), North, South, Lam(Var 0), Var 2)",
	} {
		told(t, all, s, want)
		// What is beyond is applied to the call's term.
		told(t, all, s+" x", "App("+want+", Var 0)")
		told(t, all, s+" y (c x)", "App(App("+want+", Var 1), App(Const c, Var 0))")
		told(t, all, "("+s+") x", "App("+want+", Var 0)")
		told(t, all, s+" @ ~i", "PApp at -0("+want+", Univ, Univ)")
		told(t, all, s+" x @ i y", "App(PApp at 0(App("+want+", Var 0), Univ, Univ), Var 1)")
		// And it is an argument itself.
		told(t, all, "x ("+s+")", "App(Var 0, "+want+")")
		told(t, all, "fst ("+s+") c", "App(Fst("+want+"), Const c)")
		told(t, all, "("+s+", "+s+")", "Pair("+want+", "+want+")")
	}
	for s, want := range map[string]string{"U": "Univ", "S1": "Circle", "base": "Base", "north": "North", "south": "South"} {
		told(t, all, s, want)
		told(t, all, s+" x", "App("+want+", Var 0)")
		told(t, all, s+" x y", "App(App("+want+", Var 0), Var 1)")
		told(t, given{}, s, want)
	}
}

func TestFaces(t *testing.T) {
	for s, want := range map[string]string{
		"1": "always", "(i=0)": "-0", "(i=1)": "0", "(k=1)": "2", "(i=0)(j=0)": "-0&-1", "(j=1)(i=0)": "-0&1", "(i=1)(i=1)": "0", "(k=0)(i=0)(k=0)(j=1)": "-0&1&-2",
	} {
		told(t, all, "transp (<a> U) ["+s+"] x", "Transp at "+want+"(Univ, Var 0)")
		told(t, all, "hcomp U ["+s+" -> <i> y @ i] x", "HComp(Univ, Var 0)["+want+": PApp at 0(Var 1, Univ, Univ)]")
		told(t, all, "Glue U ["+s+" -> (x, y)]", "Glue(Univ)["+want+": Var 0, Var 1]")
		told(t, all, "glue U ["+s+" -> x]", "MkGlue(Univ)["+want+": Var 0]")
	}
	// Of a name that is there twice the first one counts; a binder's dimension is ahead of them.
	told(t, given{dims: "a b a b"}, "glue U [(b=1)(a=0) -> U]", "MkGlue(Univ)[-0&1: Univ]")
	told(t, given{dims: "a b a b"}, "<b> glue U [(b=1)(a=0) -> U]", "PLam(MkGlue(Univ)[0&-1: Univ])")
	told(t, given{dims: "a b"}, "<e b> transp (<a> U) [(b=1)(a=0)(e=1)] U", "PLam(PLam(Transp at 0&1&-2(Univ, Univ)))")
	// All dimensions at once.
	dims, face, want := "", "", ""
	for k := range 24 {
		name := "d" + string(rune('a'+k))
		dims += " " + name
		face += "(" + name + "=" + []string{"0", "1"}[k%2] + ")"
		want += []string{"&-", "&"}[k%2] + shownRow([]api.Clause{{Pos: 1 << k}})
	}
	told(t, given{dims: dims}, "glue U ["+face+" -> U]", "MkGlue(Univ)["+want[1:]+": Univ]")
}

// The face of transp is joined, those of the others stand each in a branch of its own.
func TestBoxes(t *testing.T) {
	for s, want := range map[string]string{
		"": "", "1": " at always", "1, 1": " at always", "(i=0), 1": " at always", "1, (i=0), (j=0)": " at always",
		"(i=0), (i=1)": " at -0|0", "(i=1), (i=0)": " at -0|0", "(i=1), (i=1)": " at 0", "(i=1), (i=1)(j=0)": " at 0", "(i=1)(j=0), (j=0)": " at -1", "(i=1)(j=0), (j=0)(k=1), (k=0)": " at -2|0&-1|-1&2",
	} {
		told(t, all, "transp (<a> U) ["+s+"] x", "Transp"+want+"(Univ, Var 0)")
	}
	told(t, all, "hcomp U [1 -> <a> x, 1 -> <a> x, (i=0) -> <a> y, 1 -> <a> c] U", "HComp(Univ, Univ)[always: Var 0; always: Var 0; -0: Var 1; always: Const c]")
	told(t, all, "Glue U [(i=1)(j=0) -> (x, x), (i=1) -> (y, x)]", "Glue(Univ)[0&-1: Var 0, Var 0; 0: Var 1, Var 0]")
	told(t, all, "glue U [(i=1)(j=0) -> x, (i=1) -> y, (i=1)(j=0) -> x]", "MkGlue(Univ)[0&-1: Var 0; 0: Var 1; 0&-1: Var 0]")
}

// Words with too few arguments: none, and each number up to one less.
func TestTooFew(t *testing.T) {
	for word, n := range takes {
		for k := range n {
			s := word + strings.Repeat(" x", k)
			refused(t, all, s, "", api.ErrForm)
			refused(t, all, `\a. `+s, "0", api.ErrForm)
			refused(t, all, "x ("+s+")", "1", api.ErrForm)
			refused(t, all, s+" @ i", "0", api.ErrForm)
			refused(t, all, "("+s+", x)", "0", api.ErrForm)
			refused(t, all, "(x : "+s+")", "1", api.ErrForm)
			refused(t, all, s+" -> U", "0", api.ErrForm)
			refused(t, all, "U -> "+s, "1", api.ErrForm)
			refused(t, all, "glue x [1 -> "+s+"]", "1 0 1", api.ErrForm)
			// It is refused ahead of its arguments.
			if k > 0 {
				refused(t, all, word+" nobody"+strings.Repeat(" x", k-1), "", api.ErrForm)
				refused(t, all, word+strings.Repeat(" []", k), "", api.ErrForm)
			}
		}
		if n > 0 { // what stands in other brackets is no argument of it
			refused(t, all, "("+word+" : U)"+strings.Repeat(" x", n), strings.Repeat("0 ", n+1), api.ErrForm)
			refused(t, all, `(\a. `+word+")"+strings.Repeat(" x", n), strings.Repeat("0 ", n+1), api.ErrForm)
		}
	}
}

// Arguments that are no lines and no binders.
func TestNoLines(t *testing.T) {
	for _, s := range []string{"x", "U", "c", `\a. x`, `\a b. x`, "<a b> x", "<a b c> nobody", "<a a> x", "x y", "(<a> x) y", "x @ i", "(x, y)", "(<a> x : U)", "U -> U", "[]", "nobody", "loop", "merid x"} {
		arg := " (" + s + ") "
		refused(t, all, "Path"+arg+"x y", "0 0 1", api.ErrForm)
		refused(t, all, "Path"+arg+"x y z", "0 0 0 1", api.ErrForm)
		refused(t, all, "transp"+arg+"[] x", "0 0 1", api.ErrForm)
		refused(t, all, "transp"+arg+"x x", "0 0 1", api.ErrForm)
		refused(t, all, "hcomp U [1 ->"+arg+"] x", "0 1 0", api.ErrForm)
		refused(t, all, "hcomp U [1 -> <a> x, (i=0) ->"+arg+"] x", "0 1 1", api.ErrForm)
	}
	for _, s := range []string{"x", "U", "c", "<a> x", "<a b> x", `\a b. x`, `\a b c. nobody`, `\a a. x`, "x y", `(\a. x) y`, "x @ i", "(x, y)", `(\a. x : U)`, "(a : U) -> U", "[]", "nobody", "loop", "merid x"} {
		arg := " (" + s + ") "
		refused(t, all, "S1elim"+arg+"x y z", "0 0 0 1", api.ErrForm)
		refused(t, all, "S1elim"+arg+"x y z x", "0 0 0 0 1", api.ErrForm)
		refused(t, all, "Suspelim"+arg+"x y z x", "0 0 0 0 1", api.ErrForm)
	}
}

// A Box that is none, or whose Elems are others.
func TestNoBoxes(t *testing.T) {
	for _, s := range []string{"x", "U", `\a. x`, "<a> x", "(x, y)", "([] : U)", "x []", "[] x", "nobody", "loop"} {
		arg := " (" + s + ")"
		refused(t, all, "transp (<a> U)"+arg+" x", "0 1", api.ErrForm)
		refused(t, all, "hcomp U"+arg+" x", "0 1", api.ErrForm)
		refused(t, all, "Glue U"+arg, "1", api.ErrForm)
		refused(t, all, "glue U"+arg, "1", api.ErrForm)
		refused(t, all, "glue U"+arg+" x", "0 1", api.ErrForm)
	}
	// Elems with another number of parts.
	refused(t, all, "transp (<a> U) [(i=0) -> x] x", "0 1 0", api.ErrForm)
	refused(t, all, "transp (<a> U) [(i=0), 1, (i=0) -> <a> x] x", "0 1 2", api.ErrForm)
	refused(t, all, "hcomp U [(i=0)] x", "0 1 0", api.ErrForm)
	refused(t, all, "hcomp U [1 -> <a> x, (i=0)] x", "0 1 1", api.ErrForm)
	refused(t, all, "Glue U [(i=0)]", "1 0", api.ErrForm)
	refused(t, all, "Glue U [1 -> (x, y), (i=0)]", "1 1", api.ErrForm)
	refused(t, all, "glue U [(i=0)]", "1 0", api.ErrForm)
	refused(t, all, "glue U [1 -> x, (i=0)]", "1 1", api.ErrForm)
	// A second part of Glue that is no Pair.
	for _, s := range []string{"x", "U", `\a. x`, "<a> x", "x y", "(x : y)", "((x, y) : U)", "(x, y) z", "x * y", "[]", "nobody", `\a. (x, y)`} {
		refused(t, all, "Glue U [1 -> "+s+"]", "1 0", api.ErrForm)
		refused(t, all, "Glue U [1 -> (x, y), 1 -> "+s+", 1 -> nobody]", "1 1", api.ErrForm)
	}
	// A Box alone.
	for _, s := range []string{"[]", "[1]", "[(i=0)]", "[(i=0) -> x]", "[(nobody=0) -> nobody]", "[(i=0)(i=1)]"} {
		for _, in := range [][2]string{
			{"BOX", ""}, {`\a. BOX`, "0"}, {"<a> BOX", "0"}, {"x BOX", "1"}, {"BOX x", "0"}, {"BOX x y", "0 0"}, {"BOX @ i", "0"}, {"(BOX, x)", "0"}, {"(x, BOX)", "1"}, {"(BOX : U)", "0"}, {"(x : BOX)", "1"},
			{"BOX -> x", "0"}, {"x * BOX", "1"}, {"(a : BOX) * x", "0"}, {"(a : x) -> BOX", "1"}, {"fst BOX", "1"}, {"fst BOX x", "0 1"}, {"fst x BOX", "1"}, {"merid BOX @ i", "0 1"},
			{"Path (<a> BOX) x y", "0 0 1 0"}, {"hcomp BOX [] x", "0 0 1"}, {"hcomp x [] BOX", "1"}, {"hcomp x [1 -> <a> BOX] x", "0 1 0 1 0"}, {"glue x [1 -> BOX]", "1 0 1"}, {"Glue x [1 -> (BOX, x)]", "1 0 1 0"}, {"Glue x [1 -> (x, BOX)]", "1 0 1 1"},
		} {
			refused(t, all, strings.Replace(in[0], "BOX", s, 1), in[1], api.ErrForm)
		}
	}
}

// Words where names are given.
func TestWordsGiven(t *testing.T) {
	for _, word := range slices.Sorted(maps.Keys(takes)) {
		for _, l := range [][]string{{word}, {"a", word}, {word, "a"}, {"a", "b", word, "d"}, {"a", "a", word, word}} {
			for _, s := range []string{"U", "x", "nobody", `\a. a`, "<i> loop @ i", "[]", word} {
				x := read(t, s)
				for k, g := range [][3][]string{{l, nil, nil}, {nil, l, nil}, {nil, nil, l}, {{"c"}, l, {"i"}}, {l, l, l}, {nil, l, make([]string, 25)}, {nil, nil, append(make([]string, 24), l...)}} {
					if got, at, e := Resolve(x, g[0], g[1], g[2]); shown(got) != "Kind 0" || at != 0 || e != api.ErrForm {
						t.Errorf("%q with the word %s, %d = %s, %d, %d", s, word, k, shown(got), at, e)
					}
				}
			}
		}
		for _, s := range []string{`\W. x`, `\a W. x`, `\W a. x`, `\a b W d. x`, "<W> x", "<a W> x", "<W a b> x", "(W : U) -> x", "(W : U) * x", "(W : nobody) -> x", "(W : U) * nobody", `\a W. nobody`, "<W W> nobody"} {
			s = strings.Replace(s, "W", word, 2)
			refused(t, all, s, "", api.ErrForm)
			refused(t, all, "x ("+s+")", "1", api.ErrForm)
		}
		refused(t, all, "Path (<"+word+"> nobody) x y", "0 0 1", api.ErrForm)
		refused(t, all, "transp (<"+word+"> nobody) x y", "0 0 1", api.ErrForm)
		refused(t, all, "hcomp x [1 -> <"+word+"> nobody] y", "0 1 0 1", api.ErrForm)
		refused(t, all, `S1elim (\`+word+". nobody) x y z", "0 0 0 1", api.ErrForm)
		refused(t, all, `Suspelim (\`+word+". nobody) x y z x", "0 0 0 0 1", api.ErrForm)
		// Words that are none: other letters, or more of them.
		for _, s := range []string{strings.ToUpper(word) + "_", word + "0", "_" + word, word + word} {
			told(t, given{globals: s}, s+" U", "App(Const "+s+", Univ)")
			told(t, given{vars: s}, s+" U", "App(Var 0, Univ)")
			told(t, given{dims: s}, "U @ "+s, "PApp at 0(Univ, Univ, Univ)")
			told(t, given{}, `\`+s+". "+s, "Lam(Var 0)")
		}
	}
}
