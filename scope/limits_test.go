package scope

import (
	"slices"
	"strconv"
	"testing"

	"hypercube/api"
	"hypercube/sample"
	"hypercube/tree"
)

// nested tells a tree in which another one stands so many times.
func nested(in func(api.Tree) api.Tree, t api.Tree, times int) api.Tree {
	for range times {
		t = in(t)
	}
	return t
}

// downTo counts how often a term of a kind stands in another one, always as the same Kid, and tells what stands innermost.
func downTo(t api.Term, kind, kid int) (int, api.Term) {
	n := 0
	for t.Kind == kind {
		n++
		t = t.Kids[kid]
	}
	return n, t
}

// Trees as deep as they may be, and one deeper.
func TestDeepTrees(t *testing.T) {
	for _, x := range []struct {
		why       string
		in        func(api.Tree) api.Tree
		kind, kid int
		last      string
	}{
		{"Lam", func(x api.Tree) api.Tree { return naming(tree.Lam, "a", x) }, api.Lam, 0, "Var 65535"},
		{"Pi", func(x api.Tree) api.Tree { return node(tree.Pi, nm("U"), x) }, api.Pi, 1, "Var 65535"},
		{"Sigma", func(x api.Tree) api.Tree { return naming(tree.Sigma, "x", x, nm("x")) }, api.Sigma, 0, "Var 0"},
		{"App", func(x api.Tree) api.Tree { return node(tree.App, x, nm("x")) }, api.App, 0, "Var 0"},
		{"App of another", func(x api.Tree) api.Tree { return node(tree.App, nm("x"), x) }, api.App, 1, "Var 0"},
		{"fst", func(x api.Tree) api.Tree { return node(tree.App, nm("fst"), x) }, api.Fst, 0, "Var 0"},
		{"At", func(x api.Tree) api.Tree { return node(tree.At, x, nm("i")) }, api.PApp, 0, "Var 0"},
		{"Pair", func(x api.Tree) api.Tree { return node(tree.Pair, nm("x"), x) }, api.Pair, 1, "Var 0"},
		{"Ann", func(x api.Tree) api.Tree { return node(tree.Ann, x, nm("U")) }, api.The, 0, "Var 0"},
	} {
		for _, deep := range []int{65536, 65537} {
			y := nested(x.in, nm("x"), deep-1)
			y.At = 3
			got, at, e := Resolve(y, nil, []string{"x"}, []string{"i"})
			n, last := downTo(got, x.kind, x.kid)
			if deep == 65536 && (n != deep-1 || shown(last) != x.last || at != 0 || e != api.OK) {
				t.Errorf("%s, %d deep: %d, then %s; %d, %d", x.why, deep, n, shown(last), at, e)
			}
			if deep > 65536 && (got.Kind != 0 || at != 0 || e != api.ErrForm) {
				t.Errorf("%s, %d deep: %d, %d", x.why, deep, at, e)
			}
		}
	}
	// A formula stands in an At.
	dim := nested(func(x api.Tree) api.Tree { return node(tree.Not, x) }, nm("i"), 65534)
	if got, at, e := Resolve(node(tree.At, nm("loop"), dim), nil, nil, []string{"j", "i"}); shown(got) != "Loop at 1" || at != 0 || e != api.OK {
		t.Errorf("a deep formula: %s, %d, %d", shown(got), at, e)
	}
	if _, at, e := Resolve(node(tree.At, nm("loop"), node(tree.Not, dim)), nil, nil, []string{"i"}); at != 0 || e != api.ErrForm {
		t.Errorf("a formula too deep: %d, %d", at, e)
	}
}

// Many names, and many uses of them.
func TestManyNames(t *testing.T) {
	var many []string
	for k := range 100000 {
		many = append(many, "n"+strconv.Itoa(k))
	}
	for _, k := range []int{0, 1, 50000, 99999} {
		if got, at, e := Resolve(nm(many[k]), nil, many, nil); shown(got) != "Var "+strconv.Itoa(k) || at != 0 || e != api.OK {
			t.Errorf("variable %d: %s, %d, %d", k, shown(got), at, e)
		}
		if got, at, e := Resolve(nm(many[k]), many, nil, nil); shown(got) != "Const "+many[k] || at != 0 || e != api.OK {
			t.Errorf("global %d: %s, %d, %d", k, shown(got), at, e)
		}
		lam := api.Tree{Kind: tree.Lam, Names: many, Kids: []api.Tree{nm(many[k])}}
		got, at, e := Resolve(lam, nil, []string{many[k]}, nil)
		if n, last := downTo(got, api.Lam, 0); n != 100000 || shown(last) != "Var "+strconv.Itoa(99999-k) || at != 0 || e != api.OK {
			t.Errorf("Name %d: %d, %s, %d, %d", k, n, shown(last), at, e)
		}
	}
	if got, at, e := Resolve(nm("x"), nil, slices.Repeat([]string{"x"}, 100000), nil); shown(got) != "Var 0" || at != 0 || e != api.OK {
		t.Errorf("one name, often: %s, %d, %d", shown(got), at, e)
	}
	// All names are used, the outermost first, in all 60000 arguments.
	body := nm(many[0])
	for k := range 60000 {
		body = node(tree.App, body, nm(many[k]))
	}
	got, at, e := Resolve(api.Tree{Kind: tree.Lam, Names: many, Kids: []api.Tree{body}}, nil, nil, nil)
	_, app := downTo(got, api.Lam, 0)
	for k := 59999; k >= 0 && e == api.OK; k-- {
		if app.Kind != api.App || app.Kids[1].N != 99999-k {
			t.Fatalf("argument %d: %s", k, short(shown(app.Kids[1])))
		}
		app = app.Kids[0]
	}
	if shown(app) != "Var 99999" || at != 0 || e != api.OK {
		t.Errorf("many arguments: %s, %d, %d", short(shown(app)), at, e)
	}
}

// Many Elems, and many Eqs.
func TestManyElems(t *testing.T) {
	eq := api.Tree{Kind: tree.Eq, Name: "i", Names: []string{"1"}}
	face := node(tree.Face, slices.Repeat([]api.Tree{eq}, 100000)...)
	elem := node(tree.Elem, node(tree.Face, eq), nm("U"))
	box := node(tree.Box, slices.Repeat([]api.Tree{elem}, 50000)...)
	box.Kids = append(box.Kids, node(tree.Elem, face, nm("S1")))
	got, at, e := Resolve(node(tree.App, node(tree.App, nm("glue"), nm("U")), box), nil, nil, []string{"j", "i"})
	if at != 0 || e != api.OK || len(got.Sys) != 50001 || !sample.MayBe(got, 0, 2) || shown(got.Sys[50000].Kids[0]) != "Circle" || shownRow(got.Sys[50000].Face) != "1" {
		t.Errorf("many Elems: %d, %d, %d", len(got.Sys), at, e)
	}
	var faces []api.Tree
	for range 20000 {
		faces = append(faces, node(tree.Elem, node(tree.Face, eq)))
	}
	line := naming(tree.PLam, "a", nm("U"))
	got, at, e = Resolve(node(tree.App, node(tree.App, node(tree.App, nm("transp"), line), node(tree.Box, faces...)), nm("U")), nil, nil, []string{"i"})
	if shown(got) != "Transp at 0(Univ, Univ)" || at != 0 || e != api.OK {
		t.Errorf("many faces: %s, %d, %d", short(shown(got)), at, e)
	}
}
