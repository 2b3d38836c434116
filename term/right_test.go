package term

import (
	"math"
	"strings"
	"testing"

	"hypercube/api"
	"hypercube/sample"
)

// row is what a formula is written as, and a face.
type row = []api.Clause

// Short names for what the tests write most.
var (
	pos, neg, both         = sample.Pos, sample.Neg, sample.Both
	node, with, grown      = sample.Node, sample.With, sample.Grown
	variable, loop, times  = sample.Var, sample.Loop, sample.Times
	lam, plam, fst         = sample.Lam, sample.PLam, sample.Fst
	bushy, balanced, plain = sample.Bushy, sample.Balanced, sample.Plain
)

var univ = api.Term{Kind: api.Univ}

// some tells a term of a kind that may be in one variable and one dimension, with each field that the kind names; of those with a system, with so many branches.
func some(kind, branches int) api.Term {
	t := api.Term{Kind: kind}
	for range Kids(kind) {
		t.Kids = append(t.Kids, variable(0))
	}
	switch kind {
	case api.Const:
		t.Name = "c"
	case api.PApp, api.Loop, api.Merid:
		t.R = row{neg(1)}
	case api.Transp:
		t.R = row{neg(1), pos(1)}
	case api.HComp, api.MkGlue, api.Unglue:
		for range branches {
			t = grown(t, row{pos(1)}, loop(0))
		}
	case api.Glue:
		for range branches {
			t = grown(t, row{neg(1)}, variable(0), loop(0))
		}
	}
	return t
}

// judged holds Right and Formed against what they should tell.
func judged(t *testing.T, name string, x api.Term, vars, dims int, right, formed api.Errno) {
	t.Helper()
	if got := Right(x, vars, dims); got != right {
		t.Errorf("%s: Right in %d and %d = %d, not %d", name, vars, dims, got, right)
	}
	if got := Formed(x); got != formed {
		t.Errorf("%s: Formed = %d, not %d", name, got, formed)
	}
}

// noTerm holds that what is wrong anywhere in a term is told: of it, and of terms that have it.
func noTerm(t *testing.T, name string, x api.Term) {
	t.Helper()
	for _, y := range []api.Term{x, fst(x), lam(plam(x)), node(api.SuspEl, univ, univ, univ, univ, x), grown(node(api.Unglue, univ), nil, x), grown(grown(node(api.Glue, univ), nil, univ, univ), row{{}}, univ, x)} {
		judged(t, name, y, 5, 5, api.ErrTerm, api.ErrTerm)
	}
}

// P10.2.

func TestOneOfEachKind(t *testing.T) {
	for kind := api.Var; kind <= api.The; kind++ {
		for branches := range 4 {
			x := some(kind, branches)
			judged(t, "one of each kind", x, 1, 1, api.OK, api.OK)
			judged(t, "in more", x, 3, 7, api.OK, api.OK)
			if Parts(kind) > 0 && len(x.Sys) != branches {
				t.Errorf("kind %d: %d branches", kind, len(x.Sys))
			}
		}
	}
}

func TestNoSuchKind(t *testing.T) {
	for _, kind := range noKinds {
		noTerm(t, "no kind", api.Term{Kind: kind})
		noTerm(t, "no kind", node(kind, univ))
	}
}

func TestAnotherNumberOfKids(t *testing.T) {
	for kind := api.Var; kind <= api.The; kind++ {
		x := some(kind, 2)
		more := x
		more.Kids = append(x.Kids[:len(x.Kids):len(x.Kids)], univ)
		noTerm(t, "a kid too many", more)
		for n := range x.Kids {
			fewer := x
			fewer.Kids = x.Kids[:n]
			noTerm(t, "too few kids", fewer)
		}
		for n := Kids(kind) + 1; n < 9; n++ {
			more.Kids = append(more.Kids, univ)
			noTerm(t, "too many kids", more)
		}
	}
}

func TestBranchesOfAnotherForm(t *testing.T) {
	for kind := api.Var; kind <= api.The; kind++ {
		for n := range 5 {
			var kids []api.Term
			for range n {
				kids = append(kids, univ)
			}
			if x := grown(some(kind, 1), nil, kids...); n != Parts(kind) || n == 0 {
				noTerm(t, "a branch of another form", x)
			} else {
				judged(t, "a branch", x, 1, 1, api.OK, api.OK)
			}
		}
		// The first one counts as the last one does.
		if Parts(kind) > 0 {
			x := some(kind, 3)
			x.Sys[0].Kids = append(x.Sys[0].Kids, univ)
			noTerm(t, "a first branch of another form", x)
		}
	}
}

func TestFieldsThatAKindDoesNotName(t *testing.T) {
	for kind := api.Var; kind <= api.The; kind++ {
		for _, n := range []int{1, -1, math.MaxInt, math.MinInt} {
			x := some(kind, 1)
			x.N = n
			if kind != api.Var {
				noTerm(t, "a number", x)
			}
		}
		for _, name := range []string{"c", "_", " ", "\x00"} {
			x := some(kind, 1)
			x.Name = name
			if kind != api.Const {
				noTerm(t, "a name", x)
			}
		}
		if f := sample.Forms()[kind]; !f.Formula && !f.Face {
			for _, r := range []row{{{}}, {pos(1)}, {neg(1), pos(1)}, {pos(1 << 31)}} {
				noTerm(t, "a row", with(some(kind, 1), r))
			}
		}
	}
}

// A list without an element is as good as none, where one is asked for and where none is.
func TestEmptyLists(t *testing.T) {
	for kind := api.Var; kind <= api.The; kind++ {
		x := some(kind, 0)
		if len(x.Kids) == 0 {
			x.Kids = []api.Term{}
		}
		x.R, x.Sys = row{}, []api.Branch{}
		judged(t, "empty lists", x, 1, 1, api.OK, api.OK)
		if Parts(kind) > 0 {
			x := some(kind, 2)
			x.Sys[0].Face, x.Sys[1].Face = nil, row{}
			judged(t, "faces that are never", x, 1, 1, api.OK, api.OK)
		}
	}
}

func TestNames(t *testing.T) {
	for _, name := range []string{"a", "z", "A", "Z", "_", "__", "a0", "a9", "_0", "aZ_09z", "fst", "U", "hcomp", "not_a_word", strings.Repeat("x", 70000)} {
		judged(t, name[:min(20, len(name))], api.Term{Kind: api.Const, Name: name}, 0, 0, api.OK, api.OK)
	}
	for _, name := range []string{"", "0", "9", "0a", "12", " ", " a", "a ", "a b", "a-b", "a.b", "a'", "é", "aé", "a\x00", "\xff", "a\xff", "a\n", "@", "[", "`", "{", "a@", "a[", "a`", "a{", "a/", "a:", "/", ":", "λ", strings.Repeat("x", 70000) + "-"} {
		noTerm(t, name[:min(20, len(name))], api.Term{Kind: api.Const, Name: name})
	}
}

func TestVariables(t *testing.T) {
	for vars := range 5 {
		for under := range 5 {
			behind := func(n int) api.Term { return times(under, variable(n), lam) }
			if last := vars + under - 1; last >= 0 {
				judged(t, "the last variable", behind(last), vars, 0, api.OK, api.OK)
				judged(t, "the first variable", behind(0), vars, 0, api.OK, api.OK)
			}
			judged(t, "the one behind the last", behind(vars+under), vars, 0, api.ErrTerm, api.OK)
			judged(t, "one far behind", behind(math.MaxInt), vars, 0, api.ErrTerm, api.OK)
			noTerm(t, "below the first", behind(-1))
			noTerm(t, "far below", behind(math.MinInt))
		}
	}
}

func TestAsManyVariablesAsThereAreNumbers(t *testing.T) {
	judged(t, "the last number", variable(math.MaxInt), math.MaxInt, 0, api.ErrTerm, api.OK)
	judged(t, "the last but one", variable(math.MaxInt-1), math.MaxInt, 0, api.OK, api.OK)
	judged(t, "the last one, bound over", lam(variable(math.MaxInt)), math.MaxInt, 0, api.OK, api.OK)
	judged(t, "the last one, bound over twice", lam(lam(variable(math.MaxInt))), math.MaxInt-1, 0, api.OK, api.OK)
	judged(t, "the one behind", lam(lam(variable(math.MaxInt))), math.MaxInt-2, 0, api.ErrTerm, api.OK)
	judged(t, "a bound one", times(199, variable(0), lam), math.MaxInt, 24, api.OK, api.OK)
}

// Which of a kind's Kids stand behind its binder, and no others.
func TestWhereVariablesAreBound(t *testing.T) {
	for kind, f := range sample.Forms() {
		for kid := range len(f.Kids) {
			x := some(kind, 0)
			for k := range x.Kids {
				x.Kids[k] = univ
			}
			x.Kids[kid] = variable(0)
			want := api.ErrTerm
			if f.Kids[kid] == 'x' {
				want = api.OK
			}
			judged(t, "a variable", x, 0, 1, want, api.OK)
			x.Kids[kid] = variable(1)
			judged(t, "the next variable", x, 1, 1, want, api.OK)
		}
		for part := range len(f.Branch) {
			x := some(kind, 1)
			for k := range x.Kids {
				x.Kids[k] = univ
			}
			x.Sys[0].Kids = []api.Term{univ, univ}[:len(f.Branch)]
			x.Sys[0].Kids[part] = variable(0)
			judged(t, "a variable in a branch", x, 0, 1, api.ErrTerm, api.OK)
			judged(t, "a variable in a branch", x, 1, 1, api.OK, api.OK)
		}
	}
}
