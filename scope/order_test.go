package scope

import (
	"slices"
	"strconv"
	"strings"
	"testing"

	"hypercube/api"
	"hypercube/sample"
	"hypercube/tree"
)

// P9.1: trees that may not be are refused at 0, whatever else is wrong.
func TestWrongTrees(t *testing.T) {
	elem := func(kids ...api.Tree) api.Tree { return node(tree.Box, node(tree.Elem, kids...)) }
	eq := func(digits ...string) api.Tree { return api.Tree{Kind: tree.Eq, Name: "i", Names: digits} }
	face := node(tree.Face)
	for why, x := range map[string]api.Tree{
		"no kind": {}, "below all": {Kind: -1}, "above all": {Kind: 19}, "far above": {Kind: 1 << 62},
		"Decl": {Kind: tree.Decl, Name: "x", Kids: []api.Tree{nm("U"), nm("U")}}, "Elem": node(tree.Elem, face), "Face": face, "Eq": eq("0"),
		"Or": node(tree.Or, nm("i"), nm("j")), "And": node(tree.And, nm("i"), nm("j")), "Not": node(tree.Not, nm("i")), "Digit": {Kind: tree.Digit, Name: "0"},
		"Name of no name": nm(""), "Name of a digit": nm("0"), "Name of two": nm("x y"), "Name with Names": {Kind: tree.Name, Name: "x", Names: []string{"x"}}, "Name with a Kid": {Kind: tree.Name, Name: "x", Kids: []api.Tree{nm("x")}},
		"Lam of no Name": node(tree.Lam, nm("U")), "Lam of a digit": naming(tree.Lam, "x 0", nm("U")), "Lam of no Kid": naming(tree.Lam, "x"), "Lam of two": naming(tree.Lam, "x", nm("U"), nm("U")), "Lam with a Name": {Kind: tree.Lam, Name: "x", Names: []string{"x"}, Kids: []api.Tree{nm("U")}},
		"PLam of no Name": node(tree.PLam, nm("U")), "PLam of no Kid": naming(tree.PLam, "x"),
		"Pi of two Names": naming(tree.Pi, "x y", nm("U"), nm("U")), "Pi of one": naming(tree.Pi, "x", nm("U")), "Sigma of two Names": naming(tree.Sigma, "x y", nm("U"), nm("U")), "Sigma of none": node(tree.Sigma),
		"App of one": node(tree.App, nm("fst")), "App of three": node(tree.App, nm("U"), nm("U"), nm("U")), "App with Names": naming(tree.App, "x", nm("U"), nm("U")),
		"At a term": node(tree.At, nm("loop"), node(tree.App, nm("i"), nm("i"))), "At nothing": node(tree.At, nm("loop")), "At 2": node(tree.At, nm("loop"), api.Tree{Kind: tree.Digit, Name: "2"}), "At Not of two": node(tree.At, nm("loop"), node(tree.Not, nm("i"), nm("i"))),
		"Pair of one": node(tree.Pair, nm("U")), "Ann of one": node(tree.Ann, nm("U")), "Ann of no tree": node(tree.Ann, nm("U"), api.Tree{}),
		"Box of a term": node(tree.Box, nm("U")), "Elem of a term": elem(nm("U")), "Elem of three": elem(face, nm("U"), nm("U")), "Elem of none": elem(), "Face of a term": elem(node(tree.Face, nm("i"))), "Eq of no digit": elem(node(tree.Face, eq())), "Eq of 2": elem(node(tree.Face, eq("2"))), "Eq of two": elem(node(tree.Face, eq("0", "1"))),
	} {
		x.At = 5
		for _, g := range []given{{}, all, {vars: "U"}, {dims: strings.Repeat("i ", 25)}} {
			refusedAt(t, g, why, x, 0, api.ErrForm)
			refusedAt(t, g, why, api.Tree{Kind: tree.App, Kids: []api.Tree{nm("nobody"), x}, At: 9}, 0, api.ErrForm)
			refusedAt(t, g, why, api.Tree{Kind: tree.Lam, Names: []string{"U"}, Kids: []api.Tree{x}, At: 9}, 0, api.ErrForm)
		}
	}
}

// dimNames tells n names of dimensions, as one text.
func dimNames(n int) string {
	var out []string
	for k := range n {
		out = append(out, "d"+strconv.Itoa(k))
	}
	return strings.Join(out, " ")
}

// P9.1: as many dimensions as there may be, and one more.
func TestDims24(t *testing.T) {
	full := given{vars: "x", dims: dimNames(24)}
	told(t, full, "x @ d23", "PApp at 23(Var 0, Univ, Univ)")
	told(t, full, "glue x [(d0=0)(d23=1) -> x]", "MkGlue(Var 0)[-0&23: Var 0]")
	told(t, full, `\a b. (d : a) -> d x @ d23`, "Lam(Lam(Pi(Var 1, PApp at 23(App(Var 0, Var 3), Univ, Univ))))")
	for _, s := range []string{"x", "nobody", "U", "<i> x", "[]", `\U. x`, "fst"} {
		for _, dims := range []string{full.dims + " i", full.dims + " d0", strings.Repeat("i ", 25), strings.Repeat("i ", 1000)} {
			refusedAt(t, given{vars: "x", dims: dims}, s, read(t, s), 0, api.ErrArg)
		}
	}
	// Binders of dimensions, up to the last one that there may be, and beyond.
	for n := range 25 {
		g, more := given{vars: "x", dims: dimNames(n)}, 24-n
		if n < 24 {
			in, out := strings.Repeat("PLam(", more), strings.Repeat(")", more)
			told(t, g, "<"+strings.Repeat("a ", more)+"> x @ a", in+"PApp at 0(Var 0, Univ, Univ)"+out)
			told(t, g, strings.Repeat("<a>", more)+" x", in+"Var 0"+out)
			refused(t, g, "<"+strings.Repeat("a ", more)+"> <b> x", "0", api.ErrDims)
		}
		refused(t, g, "<"+strings.Repeat("a ", more+1)+"> x", "", api.ErrDims)
		refused(t, g, "<"+strings.Repeat("a ", more+100)+"> x", "", api.ErrDims)
		refused(t, g, strings.Repeat("<a>", more+1)+" x", strings.Repeat("0 ", more), api.ErrDims)
	}
	// Lines are such binders.
	one := given{vars: "x", dims: dimNames(23)}
	told(t, one, "Path (<a> x @ a @ d22) x x", "Path(PApp at 23(PApp at 0(Var 0, Univ, Univ), Univ, Univ), Var 0, Var 0)")
	told(t, one, "transp (<a> x @ d22) [(d22=0)] x", "Transp at -22(PApp at 23(Var 0, Univ, Univ), Var 0)")
	told(t, one, "hcomp x [(d22=0) -> <a> x @ d22] x", "HComp(Var 0, Var 0)[-22: PApp at 23(Var 0, Univ, Univ)]")
	told(t, one, "(<a> x, <a> x)", "Pair(PLam(Var 0), PLam(Var 0))")
	told(t, one, "Path (<a> x) (<a> x) (<a> x)", "Path(Var 0, PLam(Var 0), PLam(Var 0))")
	refused(t, one, "Path (<a> <b> x) x x", "0 0 1 0", api.ErrDims)
	for _, body := range []string{"x", "nobody", "loop"} {
		refused(t, full, "Path (<a> "+body+") x x", "0 0 1", api.ErrDims)
		refused(t, full, "transp (<a> "+body+") x x", "0 0 1", api.ErrDims)
		refused(t, full, "hcomp x [1 -> <a> "+body+"] x", "0 1 0 1", api.ErrDims)
		refused(t, full, "<a> "+body, "", api.ErrDims)
	}
	// What is named first is told.
	refused(t, full, "<a U> x", "", api.ErrForm)
	refused(t, full, "<U> x", "", api.ErrForm)
	refused(t, full, "<a b fst> x", "", api.ErrForm)
	refused(t, full, "Path (<a b> x) x x", "0 0 1", api.ErrForm)
	refused(t, full, "Path (<U> x) x x", "0 0 1", api.ErrForm)
	refused(t, full, "hcomp x [1 -> <a b> x] x", "0 1 0", api.ErrForm)
	refused(t, full, "hcomp x [1 -> <U> x] x", "0 1 0 1", api.ErrForm)
}

// P9.1, P9.2: what is refused first, where several things are wrong.
func TestOrder(t *testing.T) {
	for _, x := range []struct {
		s, path string
		e       api.Errno
	}{
		{"nobody loop", "0", api.ErrScope}, {"loop nobody", "0", api.ErrForm}, {"x nobody loop", "0 1", api.ErrScope}, {"x loop nobody", "0 1", api.ErrForm}, {"nobody loop []", "0 0", api.ErrScope},
		{"(nobody, loop)", "0", api.ErrScope}, {"(x, loop)", "1", api.ErrForm}, {"(loop : nobody)", "0", api.ErrForm}, {"(x : nobody)", "1", api.ErrScope},
		{"nobody -> loop", "0", api.ErrScope}, {"U * loop", "1", api.ErrForm}, {"(U : nobody) -> loop", "", api.ErrForm}, {"(a : nobody) * loop", "0", api.ErrScope}, {"(a : loop) -> nobody", "0", api.ErrForm},
		{`\U. nobody`, "", api.ErrForm}, {`\a. \U. nobody`, "0", api.ErrForm}, {"<U> nobody", "", api.ErrForm},
		{"nobody @ gone", "0", api.ErrScope}, {"x @ gone", "1", api.ErrScope}, {"loop @ gone", "1", api.ErrScope}, {"fst @ gone", "0", api.ErrForm},
		{`x @ (gone /\ lost)`, "1 0", api.ErrScope}, {`x @ (i /\ lost)`, "1 1", api.ErrScope}, {`x @ (i /\ gone \/ lost)`, "1 0 1", api.ErrScope}, {`x @ ~(i \/ ~gone)`, "1 0 1 0", api.ErrScope},
		{"merid nobody", "0", api.ErrForm}, {"merid x nobody", "0 0", api.ErrForm}, {"merid nobody @ gone", "0 1", api.ErrScope}, {"merid x @ gone", "1", api.ErrScope}, {"merid loop @ gone", "0 1", api.ErrForm}, {"merid nobody loop @ gone", "0 0 0", api.ErrForm},
		{"fst nobody loop", "0 1", api.ErrScope}, {"fst x loop nobody", "0 1", api.ErrForm}, {"fst x nobody loop", "0 1", api.ErrScope}, {"fst [] nobody", "0 1", api.ErrForm},
		{"Path x nobody loop", "0 0 1", api.ErrForm}, {"Path (<a> nobody) loop []", "0 0 1 0", api.ErrScope}, {"Path (<a> U) nobody loop", "0 1", api.ErrScope}, {"Path (<a> U) x loop nobody", "0 1", api.ErrForm}, {"Path nobody loop", "", api.ErrForm},
		{"transp x x nobody", "0 0 1", api.ErrForm}, {"transp (<a> nobody) x loop", "0 0 1 0", api.ErrScope}, {"transp (<a> U) x nobody", "0 1", api.ErrForm}, {"transp (<a> U) [(gone=0)] loop", "0 1 0 0 0", api.ErrScope}, {"transp (<a> U) [] nobody", "1", api.ErrScope},
		{"transp (<a> U) [(a=0)] x", "0 1 0 0 0", api.ErrScope}, {"transp (<a> U) [(gone=0), 1 -> x] x", "0 1 0 0 0", api.ErrScope}, {"transp (<a> U) [1 -> x, (gone=0)] x", "0 1 0", api.ErrForm}, {"transp (<a> U) [(gone=0) -> x] x", "0 1 0", api.ErrForm}, {"transp (<a> U) [1, (i=0)(i=1), (gone=0)] x", "0 1 1 0", api.ErrForm},
		{"hcomp nobody x []", "0 0 1", api.ErrScope}, {"hcomp U x nobody", "0 1", api.ErrForm}, {"hcomp U [] nobody", "1", api.ErrScope}, {"hcomp U [1 -> <a> nobody] loop", "0 1 0 1 0", api.ErrScope}, {"hcomp U [] loop nobody", "0 1", api.ErrForm},
		{"hcomp U [(a=0) -> <a> x] x", "0 1 0 0 0", api.ErrScope}, {"hcomp U [(gone=0) -> <a> x, 1] x", "0 1 0 0 0", api.ErrScope}, {"hcomp U [1, (gone=0) -> <a> x] x", "0 1 0", api.ErrForm}, {"hcomp U [(gone=0)] x", "0 1 0", api.ErrForm}, {"hcomp U [(gone=0) -> x] x", "0 1 0", api.ErrForm},
		{"hcomp U [(i=0)(gone=0) -> <a> nobody] x", "0 1 0 0 1", api.ErrScope}, {"hcomp U [(gone=0)(lost=0) -> <a> nobody] x", "0 1 0 0 0", api.ErrScope}, {"hcomp U [(i=0)(i=1)(gone=0) -> <a> x] x", "0 1 0 0 2", api.ErrScope},
		{"hcomp U [(i=0)(i=1) -> <a> nobody] x", "0 1 0 0", api.ErrForm}, {"hcomp U [(i=0)(i=1) -> <U> x] x", "0 1 0 0", api.ErrForm}, {"hcomp U [(i=0) -> <U> nobody] x", "0 1 0 1", api.ErrForm}, {"hcomp U [1 -> <a> nobody, (i=0)(i=1) -> x] x", "0 1 0 1 0", api.ErrScope}, {"hcomp U [1 -> <a> x, (i=0)(i=1) -> <a> x, 1] x", "0 1 1 0", api.ErrForm},
		{"Glue nobody x", "0 1", api.ErrScope}, {"Glue U [(gone=0) -> x]", "1 0", api.ErrForm}, {"Glue U [(gone=0) -> (nobody, loop)]", "1 0 0 0", api.ErrScope}, {"Glue U [1 -> (nobody, loop)]", "1 0 1 0", api.ErrScope},
		{"Glue U [1 -> (x, loop), 1 -> nobody]", "1 0 1 1", api.ErrForm}, {"Glue U [1 -> (x, nobody)] loop", "0 1 0 1 1", api.ErrScope},
		{"glue nobody x", "0 1", api.ErrScope}, {"glue U [(gone=0)]", "1 0", api.ErrForm}, {"glue U [(gone=0) -> loop]", "1 0 0 0", api.ErrScope}, {"glue U [1 -> nobody, 1]", "1 0 1", api.ErrScope}, {"glue U [1, 1 -> nobody]", "1 0", api.ErrForm},
		{`S1elim (\a. nobody) loop x x`, "0 0 0 1 0", api.ErrScope}, {`S1elim (\a. a) loop nobody x`, "0 0 1", api.ErrForm}, {`S1elim (\a. a) x nobody loop`, "0 1", api.ErrScope}, {`S1elim (\a. a) x x loop nobody`, "0 1", api.ErrForm}, {`S1elim x nobody x x`, "0 0 0 1", api.ErrForm}, {`S1elim (\a. a) a x x`, "0 0 1", api.ErrScope},
		{`Suspelim (\a. nobody) loop x x x`, "0 0 0 0 1 0", api.ErrScope}, {`Suspelim (\a. a) nobody loop x x`, "0 0 0 1", api.ErrScope}, {`Suspelim (\a. a) x loop nobody x`, "0 0 1", api.ErrForm}, {`Suspelim (\a. a) x x nobody loop`, "0 1", api.ErrScope}, {`Suspelim (\a. a) x x x loop`, "1", api.ErrForm},
	} {
		refused(t, all, x.s, x.path, x.e)
	}
}

// P9.1: faces that clash.
func TestClashes(t *testing.T) {
	for _, face := range []string{"(i=0)(i=1)", "(i=1)(i=0)", "(i=0)(i=0)(i=1)", "(k=1)(i=0)(j=0)(k=0)", "(i=0)(j=1)(i=1)(j=0)"} {
		refused(t, all, "transp (<a> U) ["+face+"] x", "0 1 0 0", api.ErrForm)
		refused(t, all, "transp (<a> U) [1, "+face+"] x", "0 1 1 0", api.ErrForm)
		refused(t, all, "hcomp U ["+face+" -> <a> x] x", "0 1 0 0", api.ErrForm)
		refused(t, all, "Glue U [1 -> (x, x), "+face+" -> (x, x)]", "1 1 0", api.ErrForm)
		refused(t, all, "glue U ["+face+" -> x]", "1 0 0", api.ErrForm)
	}
	// In other faces, and of other dimensions, it is none.
	told(t, all, "glue U [(i=0) -> x, (i=1) -> x, (i=0)(j=1) -> x]", "MkGlue(Univ)[-0: Var 0; 0: Var 0; -0&1: Var 0]")
}

// bracketed tells trees with a tree of a kind between each two, from the left.
func bracketed(kind int, l ...api.Tree) api.Tree {
	out := l[0]
	for _, t := range l[1:] {
		out = node(kind, out, t)
	}
	return out
}

// P9.1: formulas of the greatest number of clauses, and of more.
func TestGreatFormulas(t *testing.T) {
	g := given{vars: "x", dims: dimNames(24)}
	var pairs []api.Tree
	for i := range 24 {
		for k := range i {
			pairs = append(pairs, node(tree.And, nm("d"+strconv.Itoa(i)), nm("d"+strconv.Itoa(k))))
		}
	}
	single := func(from, to int) api.Tree {
		var l []api.Tree
		for k := from; k < to; k++ {
			l = append(l, nm("d"+strconv.Itoa(k)))
		}
		return bracketed(tree.Or, l...)
	}
	apart := func(n int) api.Tree { // n clauses of two dimensions, all others in each
		var l []api.Tree
		for k := range n {
			l = append(l, node(tree.And, nm("d"+strconv.Itoa(2*k)), nm("d"+strconv.Itoa(2*k+1))))
		}
		return bracketed(tree.Or, l...)
	}
	gone := nm("gone")
	for _, x := range []struct {
		why    string
		dim    api.Tree
		path   string
		e      api.Errno
		clause int
	}{
		{"64 clauses", bracketed(tree.Or, pairs[:64]...), "", api.OK, 64},
		{"65 clauses", bracketed(tree.Or, pairs[:65]...), "", api.ErrBig, 0},
		{"65 clauses, the other way round", node(tree.Or, pairs[64], bracketed(tree.Or, pairs[:64]...)), "", api.ErrBig, 0},
		{"66 clauses", bracketed(tree.Or, pairs[:66]...), "0", api.ErrBig, 0},
		{"80 clauses", bracketed(tree.Or, pairs[:80]...), strings.Repeat("0 ", 15), api.ErrBig, 0},
		{"65 clauses, and 1", node(tree.Or, bracketed(tree.Or, pairs[:65]...), api.Tree{Kind: tree.Digit, Name: "1"}), "0", api.ErrBig, 0},
		{"1, and 65 clauses", bracketed(tree.Or, append([]api.Tree{{Kind: tree.Digit, Name: "1"}}, pairs[:65]...)...), "", api.OK, 1},
		{"64 clauses, and a needless one", node(tree.Or, bracketed(tree.Or, pairs[:64]...), node(tree.And, pairs[0], nm("d23"))), "", api.OK, 64},
		{"8 and 8, met", node(tree.And, single(0, 8), single(8, 16)), "", api.OK, 64},
		{"8 and 9, met", node(tree.And, single(0, 8), single(8, 17)), "", api.ErrBig, 0},
		{"9 and 8, met, in Not", node(tree.Not, node(tree.And, single(0, 9), single(9, 17))), "0", api.ErrBig, 0},
		{"Not of 6 pairs", node(tree.Not, apart(6)), "", api.OK, 64},
		{"Not of 7 pairs", node(tree.Not, apart(7)), "", api.ErrBig, 0},
		{"Not of Not of 7 pairs", node(tree.Not, node(tree.Not, apart(7))), "0", api.ErrBig, 0},
		{"the first part is too great", node(tree.And, node(tree.Not, apart(7)), gone), "0", api.ErrBig, 0},
		{"the second part is too great", node(tree.And, gone, node(tree.Not, apart(7))), "0", api.ErrScope, 0},
		{"the parts first", node(tree.And, single(0, 8), node(tree.Or, single(8, 17), gone)), "1 1", api.ErrScope, 0},
	} {
		for what, first := range map[string]api.Tree{"Loop": nm("loop"), "Merid": node(tree.App, nm("merid"), nm("x")), "PApp": nm("x")} {
			next := 1000
			all := numbered(node(tree.At, first, x.dim), &next)
			if x.e != api.OK {
				refusedAt(t, g, x.why, all, part(all, "1 "+x.path).At, x.e)
				continue
			}
			got, at, e := g.resolve(all)
			if e != api.OK || at != 0 || len(got.R) != x.clause || !strings.HasPrefix(shown(got), what) || !sample.MayBe(got, 1, 24) {
				t.Errorf("%s: %s at %d clauses, %d, %d", x.why, what, len(got.R), at, e)
			}
		}
	}
}

// P9.2: the face of transp, of the greatest number of clauses, and of more.
func TestGreatFaces(t *testing.T) {
	g := given{vars: "x", dims: dimNames(23)}
	var faces []string
	for i := range 23 {
		for k := range i {
			faces = append(faces, "(d"+strconv.Itoa(i)+"=0)(d"+strconv.Itoa(k)+"=1)")
		}
	}
	box := func(l ...string) string { return "transp (<a> U) [" + strings.Join(l, ", ") + "] x" }
	first := func(n int, more ...string) []string { return append(slices.Clone(faces[:n]), more...) }
	for _, x := range []struct {
		elems   []string
		clauses int
	}{
		{first(64), 64}, {first(64, faces[:64]...), 64}, {first(64, faces[3]+"(d20=1)"), 64}, {first(64, "1"), 1}, {append([]string{"1"}, faces[:200]...), 1},
	} {
		got, at, e := g.resolve(read(t, box(x.elems...)))
		if e != api.OK || at != 0 || len(got.R) != x.clauses || !sample.MayBe(got, 1, 23) {
			t.Errorf("%d faces: %d clauses, %d, %d", len(x.elems), len(got.R), at, e)
		}
	}
	// It is joined from the left on, as far as it may be.
	refused(t, g, box(first(65)...), "0 1", api.ErrBig)
	refused(t, g, box(first(65, "1")...), "0 1", api.ErrBig)
	refused(t, g, box(first(65, "(gone=0)")...), "0 1", api.ErrBig)
	refused(t, g, box(first(65, "1 -> x")...), "0 1", api.ErrBig)
	refused(t, g, box(first(64, "(gone=0)", faces[64])...), "0 1 64 0 0", api.ErrScope)
	refused(t, g, box(first(64, "1 -> x", faces[64])...), "0 1 64", api.ErrForm)
	// Branches are not joined: there may be as many as you like.
	var branches []string
	for _, face := range faces[:200] {
		branches = append(branches, face+" -> x")
	}
	got, at, e := g.resolve(read(t, "glue x ["+strings.Join(branches, ", ")+"]"))
	if e != api.OK || at != 0 || len(got.Sys) != 200 || !sample.MayBe(got, 1, 23) {
		t.Errorf("200 branches: %d, %d, %d", len(got.Sys), at, e)
	}
}
