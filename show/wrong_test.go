package show

import (
	"slices"
	"strings"
	"testing"

	"hypercube/api"
	"hypercube/sample"
	"hypercube/tree"
)

// textless holds a tree without a text against what Right and Term tell of it.
func textless(t *testing.T, why string, x api.Tree, right, term api.Errno) {
	t.Helper()
	if e := Right(x); e != right {
		t.Errorf("%q: Right = %d, not %d", why, e, right)
	}
	if s, e := Term(x); s != "" || e != term {
		t.Errorf("%q: Term = %q, %d, not %d", why, short(s), e, term)
	}
}

// textlessFile holds declarations without a text against what File tells of them.
func textlessFile(t *testing.T, why string, want api.Errno, l ...api.Tree) {
	t.Helper()
	if s, e := File(l); s != "" || e != want {
		t.Errorf("%q: File = %q, %d, not %d", why, short(s), e, want)
	}
}

// refused holds a tree against one that may not be, alone and as each part of a declaration.
func refused(t *testing.T, why string, x api.Tree) {
	t.Helper()
	textless(t, why, x, api.ErrForm, api.ErrForm)
	good := decl("d", nm("U"), nm("U"))
	refusedFile(t, why, decl("d", x, nm("U")))
	refusedFile(t, why, decl("d", nm("U"), x))
	refusedFile(t, why, good, decl("e", nm("U"), x), good)
}

func refusedFile(t *testing.T, why string, l ...api.Tree) {
	t.Helper()
	textlessFile(t, why, api.ErrForm, l...)
}

// within are places of a term in a term.
var within = []func(x api.Tree) api.Tree{
	func(x api.Tree) api.Tree { return x },
	func(x api.Tree) api.Tree { return naming(tree.Lam, "x", x) },
	func(x api.Tree) api.Tree { return naming(tree.PLam, "i j", x) },
	func(x api.Tree) api.Tree { return naming(tree.Pi, "x", x, nm("B")) },
	func(x api.Tree) api.Tree { return naming(tree.Pi, "x", nm("A"), x) },
	func(x api.Tree) api.Tree { return node(tree.Pi, x, nm("B")) },
	func(x api.Tree) api.Tree { return node(tree.Pi, nm("A"), x) },
	func(x api.Tree) api.Tree { return naming(tree.Sigma, "x", x, nm("B")) },
	func(x api.Tree) api.Tree { return naming(tree.Sigma, "x", nm("A"), x) },
	func(x api.Tree) api.Tree { return node(tree.Sigma, x, nm("B")) },
	func(x api.Tree) api.Tree { return node(tree.Sigma, nm("A"), x) },
	func(x api.Tree) api.Tree { return node(tree.App, x, nm("x")) },
	func(x api.Tree) api.Tree { return node(tree.App, nm("f"), x) },
	func(x api.Tree) api.Tree { return node(tree.At, x, nm("i")) },
	func(x api.Tree) api.Tree { return node(tree.Pair, x, nm("y")) },
	func(x api.Tree) api.Tree { return node(tree.Pair, nm("x"), x) },
	func(x api.Tree) api.Tree { return node(tree.Ann, x, nm("A")) },
	func(x api.Tree) api.Tree { return node(tree.Ann, nm("x"), x) },
	func(x api.Tree) api.Tree { return node(tree.Box, elem(""), elem("i=0", x), elem("")) },
}

// withinDims are places of a dim in a term.
var withinDims = []func(x api.Tree) api.Tree{
	at,
	func(x api.Tree) api.Tree { return at(not(x)) },
	func(x api.Tree) api.Tree { return at(or(x, nm("j"))) },
	func(x api.Tree) api.Tree { return at(or(nm("i"), x)) },
	func(x api.Tree) api.Tree { return at(and(x, nm("j"))) },
	func(x api.Tree) api.Tree { return at(and(nm("i"), not(x))) },
}

// P8.1: kinds that are none of a term's.
func TestWrongKinds(t *testing.T) {
	for why, x := range map[string]api.Tree{
		"no kind": {}, "no kind, with a name": {Name: "x"}, "below all": {Kind: -1, Name: "x"}, "above all": {Kind: 19, Name: "x"}, "far above": {Kind: 1 << 62},
		"Decl": decl("x", nm("U"), nm("U")), "Elem": elem("", nm("x")), "Face": face("i=0"), "Face of none": face(""), "Eq": face("i=0").Kids[0],
		"Or": or(nm("i"), nm("j")), "And": and(nm("i"), nm("j")), "Not": not(nm("i")), "Digit": digit("0"),
	} {
		for _, in := range within {
			refused(t, why, in(x))
		}
	}
}

// wrongNames are texts that are no names.
var wrongNames = []string{"", " ", "0", "1", "0x", "9", "x y", " x", "x ", "x\n", "x-", "-x", "x.y", "(x)", "x'", "é", "xé", "x\xff", "\xff", "x\x00", "@", "[", "`", "{", "/", ":", "x/", "x:", "x@", "x[", "x`", "x{", "->", `\`}

func TestWrongNames(t *testing.T) {
	for _, s := range wrongNames {
		for _, in := range within {
			refused(t, "a name "+s, in(nm(s)))
			refused(t, "a name in a list "+s, in(api.Tree{Kind: tree.Lam, Names: []string{s}, Kids: []api.Tree{nm("x")}}))
			refused(t, "a name in a list "+s, in(api.Tree{Kind: tree.Lam, Names: []string{"x", s, "y"}, Kids: []api.Tree{nm("x")}}))
			refused(t, "a name in a list "+s, in(api.Tree{Kind: tree.PLam, Names: []string{"i", "j", s}, Kids: []api.Tree{nm("x")}}))
			refused(t, "a name of Pi "+s, in(api.Tree{Kind: tree.Pi, Names: []string{s}, Kids: []api.Tree{nm("A"), nm("B")}}))
			refused(t, "a name of Sigma "+s, in(api.Tree{Kind: tree.Sigma, Names: []string{s}, Kids: []api.Tree{nm("A"), nm("B")}}))
			refused(t, "a name of Eq "+s, in(node(tree.Box, elem("i=0"), elem("i=0 j=1"), node(tree.Elem, node(tree.Face, api.Tree{Kind: tree.Eq, Name: s, Names: []string{"0"}})))))
		}
		for _, in := range withinDims {
			refused(t, "a dim "+s, in(nm(s)))
			if s != "0" && s != "1" {
				refused(t, "a digit "+s, in(digit(s)))
			}
		}
		refusedFile(t, "a declaration "+s, decl(s, nm("U"), nm("U")))
	}
	for _, s := range []string{"x", "2", "00", "01", "10", "0 ", "", "i"} {
		for _, in := range withinDims {
			refused(t, "a digit "+s, in(digit(s)))
		}
		refused(t, "a digit of Eq "+s, node(tree.Box, node(tree.Elem, node(tree.Face, api.Tree{Kind: tree.Eq, Name: "i", Names: []string{s}}))))
	}
}

// One tree of each kind, with a place in which it may stand.
var ofEachKind = []struct {
	x  api.Tree
	in func(x api.Tree) api.Tree
}{
	{nm("x"), within[0]}, {nm("i"), at},
	{naming(tree.Lam, "x", nm("x")), within[0]},
	{naming(tree.PLam, "x y", nm("x")), within[0]},
	{naming(tree.Pi, "x", nm("A"), nm("B")), within[0]}, {node(tree.Pi, nm("A"), nm("B")), within[0]},
	{naming(tree.Sigma, "x", nm("A"), nm("B")), within[0]}, {node(tree.Sigma, nm("A"), nm("B")), within[0]},
	{node(tree.App, nm("f"), nm("x")), within[0]},
	{node(tree.At, nm("p"), nm("i")), within[0]},
	{node(tree.Pair, nm("x"), nm("y")), within[0]},
	{node(tree.Ann, nm("x"), nm("A")), within[0]},
	{node(tree.Box, elem("")), within[0]},
	{elem("i=0"), func(x api.Tree) api.Tree { return node(tree.Box, elem(""), x) }},
	{elem("i=0", nm("x")), func(x api.Tree) api.Tree { return node(tree.Box, x) }},
	{face("i=0"), func(x api.Tree) api.Tree { return node(tree.Box, node(tree.Elem, x)) }},
	{face("i=0 j=1").Kids[1], func(x api.Tree) api.Tree {
		return node(tree.Box, node(tree.Elem, node(tree.Face, face("i=1").Kids[0], x), nm("x")))
	}},
	{or(nm("i"), nm("j")), at}, {and(nm("i"), nm("j")), at}, {not(nm("i")), at}, {digit("1"), at},
}

// P8.1: each kind with more and with fewer fields than are of use.
func TestWrongFields(t *testing.T) {
	for _, one := range ofEachKind {
		if e := Right(one.in(one.x)); e != api.OK {
			t.Errorf("the kind %d: Right = %d", one.x.Kind, e)
		}
		kind := one.x.Kind
		wrong := func(why string, change func(x *api.Tree)) {
			t.Helper()
			x := one.x
			x.Names, x.Kids = slices.Clone(x.Names), slices.Clone(x.Kids)
			change(&x)
			for _, in := range within {
				refused(t, why, in(one.in(x)))
			}
		}
		if one.x.Name == "" {
			for _, s := range []string{"x", "0", " "} {
				wrong("a Name", func(x *api.Tree) { x.Name = s })
			}
		} else {
			wrong("no Name", func(x *api.Tree) { x.Name = "" })
		}
		if kind != tree.Lam && kind != tree.PLam {
			for _, s := range []string{"x", "0", ""} {
				wrong("Names", func(x *api.Tree) { x.Names = []string{s, s} })
				if kind != tree.Pi && kind != tree.Sigma && kind != tree.Eq {
					wrong("a Name in Names", func(x *api.Tree) { x.Names = []string{s} })
				}
			}
		}
		if kind == tree.Lam || kind == tree.PLam || kind == tree.Eq {
			wrong("no Names", func(x *api.Tree) { x.Names = nil })
			wrong("no Names", func(x *api.Tree) { x.Names = x.Names[:0] })
		}
		for _, kid := range []api.Tree{nm("x"), digit("0"), elem(""), face(""), face("i=0").Kids[0], {}} {
			if kind == tree.Box && kid.Kind == tree.Elem || kind == tree.Face && kid.Kind == tree.Eq || kind == tree.Elem && len(one.x.Kids) == 1 && kid.Kind == tree.Name {
				continue
			}
			wrong("a Kid too many", func(x *api.Tree) { x.Kids = append(x.Kids, kid) })
		}
		if len(one.x.Kids) > 0 && kind != tree.Box && kind != tree.Face {
			wrong("no Kids", func(x *api.Tree) { x.Kids = nil })
			if kind != tree.Elem || len(one.x.Kids) == 1 {
				wrong("a Kid too few", func(x *api.Tree) { x.Kids = x.Kids[:len(x.Kids)-1] })
			}
		}
	}
}

// P8.1: what stands where another kind has to.
func TestWrongParts(t *testing.T) {
	for _, x := range []api.Tree{
		naming(tree.Lam, "x", nm("x")), naming(tree.PLam, "x", nm("x")), node(tree.Pi, nm("x"), nm("x")), node(tree.Sigma, nm("x"), nm("x")), node(tree.App, nm("x"), nm("x")), at(nm("i")),
		node(tree.Pair, nm("x"), nm("x")), node(tree.Ann, nm("x"), nm("x")), node(tree.Box), elem(""), face(""), face("i=0").Kids[0], decl("x", nm("x"), nm("x")), {},
	} {
		for _, in := range withinDims {
			refused(t, "a formula", in(x))
		}
	}
	for _, one := range ofEachKind {
		x := one.x
		if x.Kind != tree.Elem {
			refused(t, "an Elem", node(tree.Box, x))
			refused(t, "an Elem", node(tree.Box, elem(""), x, elem("")))
		}
		if x.Kind != tree.Face {
			refused(t, "a Face", node(tree.Box, node(tree.Elem, x)))
			refused(t, "a Face", node(tree.Box, node(tree.Elem, x, nm("x"))))
			refused(t, "a Face", node(tree.Box, elem("i=0"), node(tree.Elem, x, face("i=0"))))
		}
		if x.Kind != tree.Eq {
			refused(t, "an Eq", node(tree.Box, node(tree.Elem, node(tree.Face, x))))
			refused(t, "an Eq", node(tree.Box, node(tree.Elem, node(tree.Face, face("i=0").Kids[0], x), nm("x"))))
		}
		if x.Kind > tree.Box { // no term's
			refused(t, "a term", node(tree.Box, elem("i=0", x)))
		}
	}
	refused(t, "a Face behind a term", node(tree.Box, node(tree.Elem, nm("x"), face("i=0"))))
	refused(t, "two Faces", node(tree.Box, node(tree.Elem, face(""), face(""))))
	refused(t, "two terms", node(tree.Box, elem("", nm("x"), nm("y"))))
}

// P8.2: what is no file.
func TestWrongFiles(t *testing.T) {
	u := nm("U")
	good := decl("d", u, u)
	for _, one := range ofEachKind {
		refusedFile(t, "no Decl", one.x)
		refusedFile(t, "no Decl", good, one.x, good)
	}
	for why, x := range map[string]api.Tree{
		"nothing": {}, "a term": u, "no kind": {Name: "d", Kids: []api.Tree{u, u}}, "another kind": {Kind: 19, Name: "d", Kids: []api.Tree{u, u}},
		"no Name": decl("", u, u), "no Kids": decl("d"), "one Kid": decl("d", u), "three Kids": decl("d", u, u, u),
		"Names": {Kind: tree.Decl, Name: "d", Names: []string{"x"}, Kids: []api.Tree{u, u}}, "a Decl in it": decl("d", u, good), "a Decl ahead": decl("d", good, u),
		"a Digit": decl("d", u, digit("0")), "a wrong name": decl("d", node(tree.App, u, nm("x y")), u),
	} {
		refusedFile(t, why, x)
		refusedFile(t, why, x, good)
		refusedFile(t, why, good, x)
		refusedFile(t, why, good, good, x, good)
	}
	refused(t, "a Decl is no term", good)
}

// loose tells a text for any tree, such as the grammar has it, with brackets around all that may have them. If a text is read as the tree, this one is.
func loose(x api.Tree) string {
	in := func(k int) string {
		if k >= len(x.Kids) {
			return ""
		}
		return "(" + loose(x.Kids[k]) + ")"
	}
	names := strings.Join(x.Names, " ")
	arrow := " -> "
	if x.Kind == tree.Sigma {
		arrow = " * "
	}
	switch x.Kind {
	case tree.Name, tree.Digit:
		return x.Name
	case tree.Lam:
		return `\` + names + "." + in(0)
	case tree.PLam:
		return "<" + names + ">" + in(0)
	case tree.Pi, tree.Sigma:
		if names != "" {
			return "(" + names + " : " + in(0) + ")" + arrow + in(1)
		}
		return in(0) + arrow + in(1)
	case tree.App:
		return in(0) + in(1)
	case tree.At:
		return in(0) + "@" + in(1)
	case tree.Pair:
		return "(" + in(0) + "," + in(1) + ")"
	case tree.Ann:
		return "(" + in(0) + ":" + in(1) + ")"
	case tree.Or:
		return in(0) + `\/` + in(1)
	case tree.And:
		return in(0) + `/\` + in(1)
	case tree.Not:
		return "~" + in(0)
	case tree.Box:
		return looseBox(x)
	case tree.Decl:
		return x.Name + ":" + in(0) + "=" + in(1) + ";"
	}
	return ""
}

func looseBox(x api.Tree) string {
	var elems []string
	for _, one := range x.Kids {
		s := ""
		if len(one.Kids) > 0 {
			for _, eq := range one.Kids[0].Kids {
				s += "(" + eq.Name + "=" + strings.Join(eq.Names, " ") + ")"
			}
		}
		if s == "" {
			s = "1"
		}
		if len(one.Kids) > 1 {
			s += "->(" + loose(one.Kids[1]) + ")"
		}
		elems = append(elems, s)
	}
	return "[" + strings.Join(elems, ",") + "]"
}

// mayBe tells by reading whether a tree is what is read of some text.
func mayBe(x api.Tree) bool {
	got, _, e := tree.Term(loose(x))
	return e == api.OK && same(got, x)
}

// mayBeDecl likewise.
func mayBeDecl(x api.Tree) bool {
	got, _, e := tree.Parse(loose(x))
	return e == api.OK && len(got) == 1 && same(got[0], x)
}

// heldAgainstReading holds Right, Term and File against what may be by reading, and tells whether the tree may be.
func heldAgainstReading(t *testing.T, x api.Tree) bool {
	t.Helper()
	want, wantFile := api.ErrForm, api.ErrForm
	if mayBe(x) {
		want = api.OK
	}
	if mayBeDecl(x) {
		wantFile = api.OK
	}
	e := Right(x)
	s, f := Term(x)
	if e != want || f != want || (s == "") != (want != api.OK) {
		t.Errorf("Right(%v) = %d, Term %q, %d, not %d", x, e, s, f, want)
	}
	if s, e := File([]api.Tree{x}); e != wantFile || (s == "") != (wantFile != api.OK) {
		t.Errorf("File(%v) = %q, %d, not %d", x, s, e, wantFile)
	}
	return want == api.OK
}

// All trees of few fields: Right is by what texts are read as.
func TestAllFields(t *testing.T) {
	names := []string{"", "x", "0", "1", "2", "x y"}
	lists := [][]string{nil, {"x"}, {"0"}, {"1"}, {"x", "y"}, {"x", "1"}, {""}}
	pool := []api.Tree{nm("x"), naming(tree.Lam, "x", nm("x")), node(tree.Ann, nm("x"), nm("A")), node(tree.Box, elem("i=0")), elem(""), elem("i=0", nm("x")), face(""), face("i=0 j=1"), face("i=0").Kids[0], digit("0"), not(nm("i")), or(nm("i"), digit("1")), {}, nm("x y")}
	kids := [][]api.Tree{nil, {pool[0], pool[0], pool[0]}, {pool[6], pool[0], pool[0]}, {pool[4], pool[5], pool[4]}, {pool[8], pool[8], pool[8]}}
	for _, a := range pool {
		kids = append(kids, []api.Tree{a})
		for _, b := range pool {
			kids = append(kids, []api.Tree{a, b})
		}
	}
	good := 0
	for kind := -1; kind < 20; kind++ {
		for _, name := range names {
			for _, list := range lists {
				for _, l := range kids {
					if heldAgainstReading(t, api.Tree{Kind: kind, Name: name, Names: list, Kids: l}) {
						good++
					}
				}
			}
		}
	}
	if good < 100 {
		t.Errorf("%d may be: too few to tell", good)
	}
}

// partOf tells the part of a tree that is met as the n-th, from the root on.
func partOf(x *api.Tree, n *int) *api.Tree {
	if *n == 0 {
		return x
	}
	*n--
	for k := range x.Kids {
		if p := partOf(&x.Kids[k], n); p != nil {
			return p
		}
	}
	return nil
}

// Trees that may be, of which one part is changed.
func TestChangedTrees(t *testing.T) {
	good, bad := 0, 0
	for seed := range uint32(30000) {
		m := maker{numbers: sample.Spread(seed*2654435761+11, 300)}
		x := m.term(1 + int(seed%12))
		n := m.choice(12)
		part := partOf(&x, &n)
		if part == nil {
			continue
		}
		switch seed / 12 % 6 {
		case 0:
			part.Kind = m.choice(21) - 1
		case 1:
			part.Name = append([]string{"y", "1"}, wrongNames...)[m.choice(8)]
		case 2:
			part.Names = [][]string{nil, {"y"}, {"x", "y"}, {"0"}, {"x-"}, {"1", "1"}, {"x", ""}}[m.choice(7)]
		case 3:
			part.Kids = append(part.Kids, m.term(3))
		case 4:
			part.Kids = part.Kids[:len(part.Kids)-min(len(part.Kids), 1)]
		default:
			*part = []api.Tree{nm("x"), digit("0"), not(nm("i")), elem("", nm("x")), face("i=1"), m.term(4), at(m.dim(3)), m.dim(3), {}}[m.choice(9)]
		}
		if heldAgainstReading(t, x) {
			good++
		} else {
			bad++
		}
	}
	if good < 3000 || bad < 3000 {
		t.Errorf("%d may be, %d may not: too few to tell", good, bad)
	}
}
