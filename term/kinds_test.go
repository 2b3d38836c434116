package term

import (
	"math"
	"testing"

	"hypercube/api"
	"hypercube/sample"
)

// noKinds are numbers of no kinds: those next to the first and to the last one among them.
var noKinds = []int{0, -1, 29, 30, 100, math.MaxInt, math.MinInt}

// noKids are numbers that no kid has.
var noKids = []int{-1, -2, 5, 6, math.MaxInt, math.MinInt}

// P10.1.

func TestKids(t *testing.T) {
	want := map[int]int{
		api.Var: 0, api.Const: 0, api.Univ: 0, api.Circle: 0, api.Base: 0, api.North: 0, api.South: 0, api.Loop: 0,
		api.Lam: 1, api.Fst: 1, api.Snd: 1, api.Susp: 1, api.PLam: 1, api.Glue: 1, api.MkGlue: 1, api.Unglue: 1, api.Merid: 1,
		api.Pi: 2, api.Sigma: 2, api.App: 2, api.Pair: 2, api.Transp: 2, api.HComp: 2, api.The: 2,
		api.Path: 3, api.PApp: 3, api.CircleEl: 4, api.SuspEl: 5,
	}
	for kind := 1; kind <= 28; kind++ {
		if got := Kids(kind); got != want[kind] {
			t.Errorf("Kids(%d) = %d, not %d", kind, got, want[kind])
		}
	}
	for _, kind := range noKinds {
		if got := Kids(kind); got != -1 {
			t.Errorf("Kids(%d) = %d, not -1", kind, got)
		}
	}
}

func TestBinds(t *testing.T) {
	type place struct{ kind, kid int }
	variables := map[place]bool{{api.Pi, 1}: true, {api.Sigma, 1}: true, {api.Lam, 0}: true, {api.CircleEl, 0}: true, {api.SuspEl, 0}: true}
	dimensions := map[place]bool{{api.Path, 0}: true, {api.PLam, 0}: true, {api.Transp, 0}: true}
	number := func(yes bool) int { return map[bool]int{true: 1}[yes] }
	for kind := -3; kind <= 40; kind++ {
		for kid := -3; kid <= 10; kid++ {
			p := place{kind, kid}
			if vars, dims := Binds(kind, kid); vars != number(variables[p]) || dims != number(dimensions[p]) {
				t.Errorf("Binds(%d, %d) = %d, %d", kind, kid, vars, dims)
			}
		}
	}
}

func TestBindsOfNone(t *testing.T) {
	for kind := 1; kind <= 28; kind++ {
		for _, kid := range append(noKids, Kids(kind)) {
			if vars, dims := Binds(kind, kid); vars != 0 || dims != 0 {
				t.Errorf("Binds(%d, %d) = %d, %d", kind, kid, vars, dims)
			}
		}
	}
	for _, kind := range noKinds {
		for _, kid := range append(noKids, 0, 1, 2) {
			if vars, dims := Binds(kind, kid); vars != 0 || dims != 0 {
				t.Errorf("Binds(%d, %d) = %d, %d", kind, kid, vars, dims)
			}
		}
	}
}

func TestParts(t *testing.T) {
	want := map[int]int{api.HComp: 1, api.Glue: 2, api.MkGlue: 1, api.Unglue: 1}
	for kind := 1; kind <= 28; kind++ {
		if got := Parts(kind); got != want[kind] {
			t.Errorf("Parts(%d) = %d, not %d", kind, got, want[kind])
		}
	}
	for _, kind := range noKinds {
		if got := Parts(kind); got != 0 {
			t.Errorf("Parts(%d) = %d", kind, got)
		}
	}
}

// What the tests of all layers take for the kinds' forms is what this layer tells.
func TestForms(t *testing.T) {
	forms := sample.Forms()
	if len(forms) != 28 {
		t.Errorf("%d forms", len(forms))
	}
	for kind, f := range forms {
		if Kids(kind) != len(f.Kids) || Parts(kind) != len(f.Branch) {
			t.Errorf("%d: %d and %d, not %q and %q", kind, Kids(kind), Parts(kind), f.Kids, f.Branch)
		}
		for kid := range len(f.Kids) {
			wantVars, wantDims := sample.Inside(f.Kids[kid], 0, 0)
			if vars, dims := Binds(kind, kid); vars != wantVars || dims != wantDims {
				t.Errorf("Binds(%d, %d) = %d, %d, not as in %q", kind, kid, vars, dims, f.Kids)
			}
		}
	}
}
