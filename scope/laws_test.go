package scope

import (
	"reflect"
	"slices"
	"strconv"
	"strings"
	"testing"

	"hypercube/api"
	"hypercube/sample"
	"hypercube/show"
	"hypercube/tree"
)

// made tells a tree with its term, for each seed, in names of all three sorts; with faults, if they are not too rare to be.
func made(seed uint32, rare int) (maker, api.Tree, api.Term) {
	m := maker{numbers: sample.Spread(seed*2654435761+11, 600), globals: few[:2], rare: rare}
	for range m.choice(5) {
		m.vars = append(m.vars, few[m.choice(len(few))])
	}
	dims := m.choice(5)
	if seed%5 == 0 {
		dims = 20 + m.choice(5)
	}
	for range dims {
		m.dims = append(m.dims, few[m.choice(len(few))])
	}
	t, out := m.term(int(2 + seed%60))
	return m, t, out
}

// P9.1, P9.2: trees that are made together with their terms.
func TestMadeTerms(t *testing.T) {
	seen := map[int]int{}
	for seed := range uint32(20000) {
		m, x, want := made(seed, 0)
		if len(m.faults) > 0 { // more dimensions than there may be
			continue
		}
		got, at, e := Resolve(x, m.globals, m.vars, m.dims)
		if shown(got) != shown(want) || at != 0 || e != api.OK {
			t.Fatalf("seed %d: %s, %d, %d, not %s", seed, shown(got), at, e, shown(want))
		}
		count(got, seen)
	}
	for kind := api.Var; kind <= api.The; kind++ {
		if seen[kind] < 500 {
			t.Errorf("%s is met %d times only", kindNames[kind], seen[kind])
		}
	}
}

func count(t api.Term, seen map[int]int) {
	seen[t.Kind]++
	for _, k := range t.Kids {
		count(k, seen)
	}
	for _, b := range t.Sys {
		for _, k := range b.Kids {
			count(k, seen)
		}
	}
}

// P9.1, P9.2: trees with faults, of which the first one is told.
func TestMadeFaults(t *testing.T) {
	seen, several := map[api.Errno]int{}, 0
	for seed := range uint32(60000) {
		m, x, want := made(seed, []int{5, 20, 60}[seed%3])
		place, err := 0, api.OK
		if len(m.faults) > 0 {
			place, err, want = m.faults[0].at, m.faults[0].e, api.Term{}
		}
		got, at, e := Resolve(x, m.globals, m.vars, m.dims)
		if shown(got) != shown(want) || at != place || e != err {
			t.Fatalf("seed %d: %s, %d, %d, not %s, %d, %d", seed, shown(got), at, e, shown(want), place, err)
		}
		seen[err]++
		if len(m.faults) > 1 {
			several++
		}
	}
	if seen[api.OK] < 1000 || seen[api.ErrForm] < 1000 || seen[api.ErrScope] < 1000 || seen[api.ErrDims] < 100 || several < 1000 {
		t.Errorf("too few to tell: %v, %d with several faults", seen, several)
	}
}

// P9.3: the term may be.
func TestTermsMayBe(t *testing.T) {
	for seed := range uint32(20000) {
		m, x, _ := made(seed, 0)
		if got, _, e := Resolve(x, m.globals, m.vars, m.dims); e == api.OK && !sample.MayBe(got, len(m.vars), len(m.dims)) {
			t.Fatalf("seed %d: %s may not be in %d and %d", seed, shown(got), len(m.vars), len(m.dims))
		}
	}
	// And what tells so is no rule that lets all be.
	for _, x := range []api.Term{{}, {Kind: api.Var, N: 1}, {Kind: api.Const}, {Kind: api.Lam}, {Kind: api.Loop, R: []api.Clause{{Pos: 2}}}, {Kind: api.Transp, R: []api.Clause{{Pos: 1, Neg: 1}}, Kids: []api.Term{{Kind: api.Univ}, {Kind: api.Univ}}}} {
		if sample.MayBe(x, 1, 1) {
			t.Errorf("%s may be", shown(x))
		}
	}
}

// P9.3: a tree that is shown and read again is the same term.
func TestShownTrees(t *testing.T) {
	read := 0
	for seed := range uint32(10000) {
		m, x, _ := made(seed, 0)
		want, _, e1 := Resolve(x, m.globals, m.vars, m.dims)
		s, e := show.Term(x)
		again, _, e2 := tree.Term(s)
		if e1 != api.OK || e != api.OK || e2 != api.OK {
			continue
		}
		read++
		if got, at, e := Resolve(again, m.globals, m.vars, m.dims); shown(got) != shown(want) || at != 0 || e != api.OK {
			t.Fatalf("%q: %s, %d, %d, not %s", s, shown(got), at, e, shown(want))
		}
	}
	if read < 8000 {
		t.Errorf("only %d are read again", read)
	}
}

// P9.3: other names in their places, all through: of variables by one function, of dimensions by another.
func TestOtherNames(t *testing.T) {
	ways := []map[string]string{
		{"x": "y", "y": "x", "i": "j", "j": "k", "k": "i"},
		{"x": "i", "y": "j", "i": "x", "j": "y", "k": "z"},
		{"x": "long_name_1", "y": "_", "i": "Uu", "j": "loops", "k": "a0"},
		{"x": "k", "k": "x"},
	}
	for seed := range uint32(8000) {
		m, x, _ := made(seed, []int{0, 60}[seed%2])
		want, wantAt, wantE := Resolve(x, m.globals, m.vars, m.dims)
		vars, dims := ways[seed%4], ways[seed/4%4]
		got, at, e := Resolve(renamed(x, vars, dims), m.globals, otherNames(m.vars, vars), otherNames(m.dims, dims))
		if shown(got) != shown(want) || at != wantAt || e != wantE {
			t.Fatalf("seed %d: %s, %d, %d, not %s, %d, %d", seed, shown(got), at, e, shown(want), wantAt, wantE)
		}
	}
}

func otherNames(l []string, by map[string]string) []string {
	var out []string
	for _, name := range l {
		if other, there := by[name]; there {
			name = other
		}
		out = append(out, name)
	}
	return out
}

// renamed tells a tree with other names of variables and of dimensions.
func renamed(t api.Tree, vars, dims map[string]string) api.Tree {
	here := vars
	switch t.Kind {
	case tree.PLam:
		t.Names = otherNames(t.Names, dims)
	case tree.Lam, tree.Pi, tree.Sigma:
		t.Names = otherNames(t.Names, vars)
	case tree.Name:
		t.Name = otherNames([]string{t.Name}, vars)[0]
	case tree.Eq:
		t.Name = otherNames([]string{t.Name}, dims)[0]
	}
	var kids []api.Tree
	for k, kid := range t.Kids {
		if t.Kind == tree.At && k == 1 || t.Kind == tree.Or || t.Kind == tree.And || t.Kind == tree.Not {
			here = dims
		}
		kids = append(kids, renamed(kid, here, dims))
	}
	t.Kids = kids
	return t
}

// P9.3: names that stand for one thing each, all others than the first ones.
func TestNewNames(t *testing.T) {
	for seed := range uint32(10000) {
		m, x, _ := made(seed, 0)
		want, _, e := Resolve(x, m.globals, m.vars, m.dims)
		if e != api.OK {
			continue
		}
		var vars, dims []string
		for k := range m.vars {
			vars = append(vars, "v"+strconv.Itoa(len(m.vars)-1-k))
		}
		for k := range m.dims {
			dims = append(dims, "e"+strconv.Itoa(len(m.dims)-1-k))
		}
		back := raised(want, len(vars), len(dims))
		if got, at, e := Resolve(back, m.globals, vars, dims); shown(got) != shown(want) || at != 0 || e != api.OK {
			t.Fatalf("seed %d: %s, %d, %d, not %s", seed, shown(got), at, e, shown(want))
		}
	}
}

// raised tells a tree of a term, with a name for each variable and each dimension by how many are further out.
func raised(t api.Term, vars, dims int) api.Tree {
	kid := func(k int) api.Tree { return raised(t.Kids[k], vars, dims) }
	behindVar := func(k int) api.Tree { return raised(t.Kids[k], vars+1, dims) }
	lam := func(k int) api.Tree { return naming(tree.Lam, "v"+strconv.Itoa(vars), behindVar(k)) }
	line := func(x api.Term) api.Tree {
		return naming(tree.PLam, "e"+strconv.Itoa(dims), raised(x, vars, dims+1))
	}
	call := func(word string, args ...api.Tree) api.Tree {
		return bracketed(tree.App, append([]api.Tree{nm(word)}, args...)...)
	}
	switch t.Kind {
	case api.Var:
		return nm("v" + strconv.Itoa(vars-1-t.N))
	case api.Const:
		return nm(t.Name)
	case api.Univ, api.Circle, api.Base, api.North, api.South:
		return nm(map[int]string{api.Univ: "U", api.Circle: "S1", api.Base: "base", api.North: "north", api.South: "south"}[t.Kind])
	case api.Lam:
		return lam(0)
	case api.PLam:
		return line(t.Kids[0])
	case api.Pi, api.Sigma:
		return naming(map[int]int{api.Pi: tree.Pi, api.Sigma: tree.Sigma}[t.Kind], "v"+strconv.Itoa(vars), kid(0), behindVar(1))
	case api.App, api.Pair, api.The:
		return node(map[int]int{api.App: tree.App, api.Pair: tree.Pair, api.The: tree.Ann}[t.Kind], kid(0), kid(1))
	case api.Fst, api.Snd, api.Susp, api.Unglue:
		return call(map[int]string{api.Fst: "fst", api.Snd: "snd", api.Susp: "Susp", api.Unglue: "unglue"}[t.Kind], kid(0))
	case api.Loop:
		return node(tree.At, nm("loop"), raisedFormula(t.R, dims))
	case api.Merid:
		return node(tree.At, call("merid", kid(0)), raisedFormula(t.R, dims))
	case api.PApp:
		return node(tree.At, kid(0), raisedFormula(t.R, dims))
	case api.Path:
		return call("Path", line(t.Kids[0]), kid(1), kid(2))
	case api.CircleEl:
		return call("S1elim", lam(0), kid(1), kid(2), kid(3))
	case api.SuspEl:
		return call("Suspelim", lam(0), kid(1), kid(2), kid(3), kid(4))
	}
	box := node(tree.Box)
	for _, c := range t.R {
		box.Kids = append(box.Kids, node(tree.Elem, raisedFace(c, dims)))
	}
	for _, b := range t.Sys {
		var part api.Tree
		switch t.Kind {
		case api.HComp:
			part = line(b.Kids[0])
		case api.Glue:
			part = node(tree.Pair, raised(b.Kids[0], vars, dims), raised(b.Kids[1], vars, dims))
		default:
			part = raised(b.Kids[0], vars, dims)
		}
		box.Kids = append(box.Kids, node(tree.Elem, raisedFace(b.Face[0], dims), part))
	}
	switch t.Kind {
	case api.Transp:
		return call("transp", line(t.Kids[0]), box, kid(1))
	case api.HComp:
		return call("hcomp", kid(0), box, kid(1))
	case api.Glue:
		return call("Glue", kid(0), box)
	}
	return call("glue", kid(0), box)
}

func raisedFormula(r []api.Clause, dims int) api.Tree {
	out := api.Tree{Kind: tree.Digit, Name: "0"}
	for _, c := range r {
		met := api.Tree{Kind: tree.Digit, Name: "1"}
		for i := range dims {
			name := nm("e" + strconv.Itoa(dims-1-i))
			if c.Pos>>i&1 == 1 {
				met = node(tree.And, name, met)
			}
			if c.Neg>>i&1 == 1 {
				met = node(tree.And, met, node(tree.Not, name))
			}
		}
		out = node(tree.Or, met, out)
	}
	return out
}

func raisedFace(c api.Clause, dims int) api.Tree {
	out := node(tree.Face)
	for i := range dims {
		for k, set := range []uint32{c.Neg, c.Pos} {
			if set>>i&1 == 1 {
				out.Kids = append(out.Kids, api.Tree{Kind: tree.Eq, Name: "e" + strconv.Itoa(dims-1-i), Names: []string{strconv.Itoa(k)}})
			}
		}
	}
	return out
}

// Places hang on nothing but the tree, and the term hangs on no place.
func TestOtherPlaces(t *testing.T) {
	for seed := range uint32(3000) {
		m, x, _ := made(seed, 0)
		want, _, e1 := Resolve(x, m.globals, m.vars, m.dims)
		got, _, e2 := Resolve(placed(x, -7), m.globals, m.vars, m.dims)
		if shown(got) != shown(want) || e1 != e2 {
			t.Fatalf("seed %d: %s, %d, not %s, %d", seed, shown(got), e2, shown(want), e1)
		}
	}
	for _, place := range []int{-1, -1 << 63, 1<<63 - 1} {
		x := placed(read(t, "x y (z @ (i /\\ j))"), place)
		refusedAt(t, given{}, "x", x, place, api.ErrScope)
		refusedAt(t, given{vars: "x y z", dims: "i"}, "j", x, place, api.ErrScope)
	}
}

// placed tells a tree with one place for all its parts.
func placed(t api.Tree, at int) api.Tree {
	t.At = at
	t.Kids = slices.Clone(t.Kids)
	for k := range t.Kids {
		t.Kids[k] = placed(t.Kids[k], at)
	}
	return t
}

// What is handed in stays as it is, its spare room too, and is not kept.

// roomy tells a copy of a tree, each list of which has others behind it.
func roomy(t api.Tree) api.Tree {
	kids := make([]api.Tree, 0, len(t.Kids)+2)
	for _, k := range t.Kids {
		kids = append(kids, roomy(k))
	}
	t.Kids = append(kids, nm("spare"), nm("spare"))[:len(t.Kids)]
	t.Names = roomyNames(t.Names)
	return t
}

func roomyNames(l []string) []string {
	return append(slices.Clone(l), "spare", "spare")[:len(l)]
}

// whole tells a tree with all the spare room of its lists.
func whole(t api.Tree) api.Tree {
	t.Kids = slices.Clone(t.Kids[:cap(t.Kids)])
	for k := range t.Kids {
		t.Kids[k] = whole(t.Kids[k])
	}
	t.Names = slices.Clone(t.Names[:cap(t.Names)])
	return t
}

func TestMemory(t *testing.T) {
	for seed := range uint32(6000) {
		m, x, _ := made(seed, []int{0, 0, 60}[seed%3])
		x = roomy(x)
		globals, vars, dims := roomyNames(m.globals), roomyNames(m.vars), roomyNames(m.dims)
		before := whole(x)
		names := slices.Concat(globals[:cap(globals)], vars[:cap(vars)], dims[:cap(dims)])
		got, at, e := Resolve(x, globals, vars, dims)
		want := shown(got)
		if twice := sample.Spoil([]api.Term{got}); twice > 0 {
			t.Fatalf("seed %d: lists of one answer share memory", seed)
		}
		if !reflect.DeepEqual(before, whole(x)) || !slices.Equal(names, slices.Concat(globals[:cap(globals)], vars[:cap(vars)], dims[:cap(dims)])) {
			t.Fatalf("seed %d: what was handed in was changed, or handed out", seed)
		}
		again, at2, e2 := Resolve(x, globals, vars, dims)
		if shown(again) != want || at2 != at || e2 != e {
			t.Fatalf("seed %d: what was handed out was kept: %s, not %s", seed, shown(again), want)
		}
	}
}

// Whatever it is given, a call ends, and refuses what show.Right refuses.
func TestAnyTrees(t *testing.T) {
	for seed := range uint32(40000) {
		numbers := sample.Spread(seed*2654435761+5, 200)
		x := anyTree(&numbers, 4)
		g := given{globals: "c", vars: "x", dims: "i"}
		got, at, e := g.resolve(x)
		if show.Right(x) != api.OK && (shown(got) != "Kind 0" || at != 0 || e != api.ErrForm) || e == api.OK && (at != 0 || !sample.MayBe(got, 1, 1)) || e != api.OK && shown(got) != "Kind 0" {
			t.Fatalf("seed %d: %v = %s, %d, %d", seed, x, shown(got), at, e)
		}
	}
}

// anyTree tells a tree of any form, most often of one that may be.
func anyTree(numbers *[]uint32, deep int) api.Tree {
	next := func(n uint32) int {
		out := (*numbers)[0]
		*numbers = append((*numbers)[1:], out)
		return int(out % n)
	}
	t := api.Tree{Kind: 1 + next(10), At: next(100)}
	if next(40) == 0 {
		t.Kind = next(22) - 1
	}
	if t.Kind == tree.Name || next(30) == 0 {
		t.Name = []string{"x", "c", "i", "U", "loop", "fst", "merid", "glue", "hcomp", "q", "0"}[next(11)]
	}
	if t.Kind >= tree.Lam && t.Kind <= tree.Sigma || next(30) == 0 {
		t.Names = []string{[]string{"x", "i", "y", "U"}[next(4)]}
	}
	kids := []int{tree.Name: 0, 1, 1, 2, 2, 2, 2, 2, 2, 0, 1, 0, 0, 2, 2, 1, 0, 2, 0, 0}[max(0, min(t.Kind, 19))]
	if deep == 0 || next(30) == 0 {
		kids = next(3)
	}
	for range kids {
		if deep > 0 {
			t.Kids = append(t.Kids, anyTree(numbers, deep-1))
		}
	}
	if t.Kind == tree.At && len(t.Kids) == 2 && next(4) > 0 {
		t.Kids[1] = nm(strings.Fields("i i i x q")[next(5)])
	}
	return t
}
