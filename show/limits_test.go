package show

import (
	"slices"
	"strings"
	"testing"

	"hypercube/api"
	"hypercube/tree"
)

// tooBig holds a tree that may be against one whose text is too long, alone and as each part of a declaration.
func tooBig(t *testing.T, why string, x api.Tree) {
	t.Helper()
	textless(t, why, x, api.OK, api.ErrBig)
	tooBigFile(t, why, decl("d", x, nm("U")))
	tooBigFile(t, why, decl("d", nm("U"), x))
}

func tooBigFile(t *testing.T, why string, l ...api.Tree) {
	t.Helper()
	textlessFile(t, why, api.ErrBig, l...)
}

// P8.2: texts of the greatest length, and of one byte more.

// around are trees around one name, which alone is as long as is asked.
var around = map[string]func(name string) api.Tree{
	`NAME`:               nm,
	`\NAME. x`:           func(s string) api.Tree { return naming(tree.Lam, s, nm("x")) },
	`\x NAME. x`:         func(s string) api.Tree { return naming(tree.Lam, "x "+s, nm("x")) },
	`\x. NAME`:           func(s string) api.Tree { return naming(tree.Lam, "x", nm(s)) },
	`<NAME i> x`:         func(s string) api.Tree { return naming(tree.PLam, s+" i", nm("x")) },
	`(NAME : A) -> B`:    func(s string) api.Tree { return naming(tree.Pi, s, nm("A"), nm("B")) },
	`(x : A) * NAME`:     func(s string) api.Tree { return naming(tree.Sigma, "x", nm("A"), nm(s)) },
	`((NAME : A)) -> B`:  func(s string) api.Tree { return node(tree.Pi, node(tree.Ann, nm(s), nm("A")), nm("B")) },
	`(\x. NAME) * B`:     func(s string) api.Tree { return node(tree.Sigma, naming(tree.Lam, "x", nm(s)), nm("B")) },
	`NAME x`:             func(s string) api.Tree { return node(tree.App, nm(s), nm("x")) },
	`f (NAME x)`:         func(s string) api.Tree { return node(tree.App, nm("f"), node(tree.App, nm(s), nm("x"))) },
	`f (\x. NAME)`:       func(s string) api.Tree { return node(tree.App, nm("f"), naming(tree.Lam, "x", nm(s))) },
	`NAME @ 1`:           func(s string) api.Tree { return node(tree.At, nm(s), digit("1")) },
	`p @ ~(NAME /\ j)`:   func(s string) api.Tree { return at(not(and(nm(s), nm("j")))) },
	`p @ (i \/ ~NAME)`:   func(s string) api.Tree { return at(or(nm("i"), not(nm(s)))) },
	`(NAME, y)`:          func(s string) api.Tree { return node(tree.Pair, nm(s), nm("y")) },
	`(x : NAME)`:         func(s string) api.Tree { return node(tree.Ann, nm("x"), nm(s)) },
	`[(NAME=0)]`:         func(s string) api.Tree { return node(tree.Box, elem(s+"=0")) },
	`[(NAME=0)(j=1), 1]`: func(s string) api.Tree { return node(tree.Box, elem(s+"=0 j=1"), elem("")) },
	`[1 -> NAME]`:        func(s string) api.Tree { return node(tree.Box, elem("", nm(s))) },
	`[1 -> NAME, 1 -> x]`: func(s string) api.Tree {
		return node(tree.Box, elem("", nm(s)), elem("", nm("x")))
	},
}

func TestGreatTexts(t *testing.T) {
	for form, make := range around {
		length := api.MaxText - len(form) + len("NAME")
		name := strings.Repeat("a", length)
		x, want := make(name), strings.Replace(form, "NAME", name, 1)
		if s, e := Term(x); s != want || len(s) != api.MaxText || e != api.OK {
			t.Errorf("%s with %d bytes = %q, %d", form, api.MaxText, short(s), e)
		}
		if got, place, e := tree.Term(want); e != api.OK || !same(got, x) {
			t.Errorf("%s with %d bytes is not read again: %d, %d", form, api.MaxText, place, e)
		}
		for _, more := range []int{1, 2, 3, 10, api.MaxText} {
			tooBig(t, form, make(name+strings.Repeat("b", more)))
		}
	}
}

func TestGreatFiles(t *testing.T) {
	for form, make := range around {
		form = "d : " + form + " = U;\ne : U = U;\n"
		name := strings.Repeat("a", api.MaxText-len(form)+len("NAME"))
		last := decl("e", nm("U"), nm("U"))
		toldFile(t, []api.Tree{decl("d", make(name), nm("U")), last}, strings.Replace(form, "NAME", name, 1))
		for _, more := range []string{"b", "bb", "bbbbbbbbbb", name} {
			tooBigFile(t, form, decl("d", make(name+more), nm("U")), last)
		}
	}
	// The line feed behind the last one counts.
	name := strings.Repeat("a", api.MaxText-len(" : U = U;\n"))
	toldFile(t, []api.Tree{decl(name, nm("U"), nm("U"))}, name+" : U = U;\n")
	tooBigFile(t, "a long name", decl(name+"b", nm("U"), nm("U")))
	toldFile(t, []api.Tree{decl("d", nm("U"), nm(name))}, "d : U = "+name[1:]+"a;\n")
	tooBigFile(t, "a long body", decl("d", nm("U"), nm(name+"b")))
	// Many declarations: 11 bytes each.
	one := decl("d", nm("U"), nm("U"))
	toldFile(t, slices.Repeat([]api.Tree{one}, 5957), strings.Repeat("d : U = U;\n", 5957))
	tooBigFile(t, "many declarations", slices.Repeat([]api.Tree{one}, 5958)...)
	toldFile(t, append(slices.Repeat([]api.Tree{one}, 5956), decl("dddddddddd", nm("U"), nm("U"))), strings.Repeat("d : U = U;\n", 5956)+"dddddddddd : U = U;\n")
	tooBigFile(t, "many declarations", append(slices.Repeat([]api.Tree{one}, 5956), decl("ddddddddddd", nm("U"), nm("U")))...)
}

// Trees of many parts beside one another.
func TestManyParts(t *testing.T) {
	wide := func(n int) (lam, box, ones api.Tree) {
		lam = api.Tree{Kind: tree.Lam, Names: slices.Repeat([]string{"x"}, n), Kids: []api.Tree{nm("x")}}
		box = node(tree.Box, slices.Repeat([]api.Tree{elem("")}, n)...)
		ones = node(tree.Box, node(tree.Elem, node(tree.Face, slices.Repeat([]api.Tree{face("i=1").Kids[0]}, n)...)))
		return lam, box, ones
	}
	lam, box, _ := wide(21845)
	if s, e := Term(lam); s != `\x`+strings.Repeat(" x", 21844)+". x" || e != api.OK {
		t.Errorf("many Names: %q, %d", short(s), e)
	}
	if s, e := Term(box); s != "[1"+strings.Repeat(", 1", 21844)+"]" || len(s) != 65535 || e != api.OK {
		t.Errorf("many Elems: %q, %d", short(s), e)
	}
	_, box, _ = wide(21846)
	tooBig(t, "many Elems", box)
	_, _, ones := wide(13106)
	if s, e := Term(ones); s != "["+strings.Repeat("(i=1)", 13106)+"]" || e != api.OK {
		t.Errorf("many Eqs: %q, %d", short(s), e)
	}
	_, _, ones = wide(13107)
	tooBig(t, "many Eqs", ones)
	for _, n := range []int{32767, 100000, 1000000} {
		lam, box, ones := wide(n)
		tooBig(t, "many Names", lam)
		tooBig(t, "many Elems", box)
		tooBig(t, "many Eqs", ones)
		// What may not be is told ahead of what is too long, wherever it stands.
		lam.Names[n-1] = "0"
		refused(t, "a last Name", lam)
		box.Kids[n-1] = nm("x")
		refused(t, "a last Elem", box)
		ones.Kids[0].Kids[0].Kids[n-1] = elem("")
		refused(t, "a last Eq", ones)
	}
}

func TestFormAheadOfBig(t *testing.T) {
	long := nm(strings.Repeat("a", api.MaxText+1))
	for _, kind := range []int{tree.Pi, tree.Sigma, tree.App, tree.At, tree.Pair, tree.Ann} {
		refused(t, "a wrong part behind a long one", node(kind, long, digit("2")))
		refused(t, "a wrong part ahead of a long one", node(kind, api.Tree{}, long))
	}
	refused(t, "a long wrong name", nm(long.Name+"-"))
	good := decl("d", nm("U"), nm("U"))
	tooBigFile(t, "a long one", good, decl("d", long, long), good)
	refusedFile(t, "a wrong one behind a long one", decl("d", long, long), decl("d", long))
	refusedFile(t, "a wrong one behind many", append(slices.Repeat([]api.Tree{good}, 7000), nm("x"))...)
	refusedFile(t, "a wrong one ahead of a long one", nm("x"), decl("d", long, long))
}

// P8.1: parts that stand one in the other.

// way is from a part to one around it, so many further out.
type way struct {
	name   string
	out    func(x api.Tree) api.Tree
	levels int
}

// outward are all ways from a term to one around it.
func outward() []way {
	out := []way{{"a term in a Box", func(x api.Tree) api.Tree { return node(tree.Box, elem("", x)) }, 2}}
	for k, in := range within[1 : len(within)-1] {
		out = append(out, way{"a term in the way " + string(rune('a'+k)), in, 1})
	}
	return out
}

// nested tells a tree of so many parts one in the other, of which the innermost is given and has some.
func nested(w way, x api.Tree, has, parts int) api.Tree {
	for ; has+w.levels <= parts; has += w.levels {
		x = w.out(x)
	}
	for ; has < parts; has++ {
		x = node(tree.App, x, nm("x"))
	}
	return x
}

func TestNestedTerms(t *testing.T) {
	for _, w := range outward() {
		textless(t, w.name, nested(w, nm("x"), 1, api.MaxText), api.OK, api.ErrBig)
		textless(t, w.name, nested(w, nm("x"), 1, api.MaxText+1), api.ErrForm, api.ErrForm)
	}
	lam := way{"", within[1], 1}
	for _, in := range []struct {
		x   api.Tree
		has int
	}{{node(tree.Box), 1}, {node(tree.Box, elem("")), 3}, {node(tree.Box, elem("i=0")), 4}, {at(not(nm("i"))), 3}} {
		textless(t, "the most parts", nested(lam, in.x, in.has, api.MaxText), api.OK, api.ErrBig)
		textless(t, "one too many", nested(lam, in.x, in.has, api.MaxText+1), api.ErrForm, api.ErrForm)
	}
	textless(t, "a Digit far in", nested(lam, digit("0"), 1, api.MaxText), api.ErrForm, api.ErrForm)
	textless(t, "two too many", nested(lam, nm("x"), 1, api.MaxText+2), api.ErrForm, api.ErrForm)
	textless(t, "far too many", nested(lam, nm("x"), 1, 10*api.MaxText), api.ErrForm, api.ErrForm)
}

func TestNestedDims(t *testing.T) {
	for _, w := range []way{
		{"~", not, 1},
		{"the first that is met", func(x api.Tree) api.Tree { return and(x, nm("j")) }, 1},
		{"the second that is met", func(x api.Tree) api.Tree { return and(nm("i"), x) }, 1},
		{"the first that is joined", func(x api.Tree) api.Tree { return or(x, nm("j")) }, 1},
		{"the second that is joined", func(x api.Tree) api.Tree { return or(nm("i"), x) }, 1},
	} {
		dims := func(parts int) api.Tree { return nested(w, nm("i"), 1, parts) }
		textless(t, w.name, at(dims(api.MaxText-1)), api.OK, api.ErrBig)
		textless(t, w.name, at(dims(api.MaxText)), api.ErrForm, api.ErrForm)
		// The terms around them count, too.
		textless(t, w.name, naming(tree.Lam, "x", node(tree.Box, elem("i=0", at(dims(api.MaxText-4))))), api.OK, api.ErrBig)
		textless(t, w.name, naming(tree.Lam, "x", node(tree.Box, elem("i=0", at(dims(api.MaxText-3))))), api.ErrForm, api.ErrForm)
	}
}

// The parts of a declaration count each by itself.
func TestNestedInDecls(t *testing.T) {
	most := at(nested(way{"", not, 1}, nm("i"), 1, api.MaxText-1))
	more := at(nested(way{"", not, 1}, nm("i"), 1, api.MaxText))
	tooBigFile(t, "the most parts", decl("d", most, most))
	refusedFile(t, "one too many", decl("d", more, nm("U")))
	refusedFile(t, "one too many", decl("d", nm("U"), more))
	refusedFile(t, "one too many", decl("d", most, more))
}

// A text may be of the greatest length and nested as far as that goes.
func TestDeepTexts(t *testing.T) {
	x := nm("i")
	for range api.MaxText - 5 {
		x = not(x)
	}
	want := "p @ " + strings.Repeat("~", api.MaxText-5) + "i"
	if s, e := Term(at(x)); s != want || len(s) != api.MaxText || e != api.OK {
		t.Errorf("many opposites: %q, %d", short(s), e)
	}
	tooBig(t, "one opposite more", at(not(x)))
	x = nm("x")
	for range api.MaxText/2 - 1 {
		x = node(tree.App, x, nm("x"))
	}
	want = strings.Repeat("x ", api.MaxText/2-1) + "x"
	if s, e := Term(x); s != want || e != api.OK {
		t.Errorf("many apps: %q, %d", short(s), e)
	}
	if got, _, e := tree.Term(want); e != api.OK || !same(got, x) {
		t.Errorf("many apps are not read again: %d", e)
	}
	tooBig(t, "one app more", node(tree.App, x, nm("x")))
}

// P8.3: what is too deep may be and is shown, but is not read again.
func TestTooDeepToBeRead(t *testing.T) {
	for _, w := range outward() {
		x := nm("x")
		for n := 1; n < 450; n++ {
			s, e := Term(x)
			if e != api.OK || Right(x) != api.OK {
				t.Fatalf("%s, %d times: %q, %d", w.name, n, short(s), e)
			}
			switch got, _, e := tree.Term(s); {
			case e == api.OK && !same(got, x), e != api.OK && e != api.ErrDeep:
				t.Fatalf("%s, %d times: %q is read as another, or %d", w.name, n, short(s), e)
			case e == api.ErrDeep && n < 100:
				t.Fatalf("%s, %d times: it is too deep", w.name, n)
			}
			x = w.out(x)
		}
	}
	lams := func(n int) (api.Tree, string) {
		x := nm("x")
		for range n {
			x = naming(tree.Lam, "x", x)
		}
		return x, strings.Repeat(`\x. `, n) + "x"
	}
	x, want := lams(api.MaxDepth - 1)
	told(t, x, want)
	x, want = lams(api.MaxDepth)
	if s, e := Term(x); s != want || e != api.OK {
		t.Errorf("Term = %q, %d", short(s), e)
	}
	if _, _, e := tree.Term(want); e != api.ErrDeep {
		t.Errorf("what is too deep is read: %d", e)
	}
	if s, e := File([]api.Tree{decl("d", x, x)}); s != "d : "+want+" = "+want+";\n" || e != api.OK {
		t.Errorf("File = %q, %d", short(s), e)
	}
}

// A tree that has itself as a part has no end: more parts stand one in the other than may.
func TestPartsOfThemselves(t *testing.T) {
	for kind := -1; kind < 20; kind++ {
		for n := 1; n < 3; n++ {
			for _, names := range [][]string{nil, {"x"}} {
				kids := make([]api.Tree, n)
				for k := range kids {
					kids[k] = api.Tree{Kind: kind, Names: names, Kids: kids}
				}
				refused(t, "a part of itself", kids[0])
				refused(t, "a part of itself", at(kids[0]))
			}
		}
	}
}
