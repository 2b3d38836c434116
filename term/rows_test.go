package term

import (
	"math"
	"testing"

	"hypercube/api"
	"hypercube/sample"
)

// withRows tells terms that have a row, wherever one may stand: a formula, or a face.
func withRows(r row, face bool) map[string]api.Term {
	if !face {
		return map[string]api.Term{"PApp": with(node(api.PApp, univ, univ, univ), r), "Loop": with(node(api.Loop), r), "Merid": with(node(api.Merid, univ), r)}
	}
	return map[string]api.Term{
		"Transp": with(node(api.Transp, univ, univ), r),
		"HComp":  grown(node(api.HComp, univ, univ), r, univ), "Glue": grown(node(api.Glue, univ), r, univ, univ),
		"MkGlue": grown(node(api.MkGlue, univ), r, univ), "Unglue": grown(node(api.Unglue, univ), r, univ),
		"a second branch": grown(grown(node(api.MkGlue, univ), row{pos(1)}, univ), r, univ),
	}
}

// P10.2: formulas and faces that may be, and that may not.

func TestRowsThatMayBe(t *testing.T) {
	for _, r := range []row{nil, {{}}, {pos(1)}, {neg(1)}, {neg(1), pos(1)}, {both(1, 2)}, {neg(2), pos(4)}, sample.Pairs(3)} {
		for _, face := range []bool{false, true} {
			for name, x := range withRows(r, face) {
				judged(t, name, x, 0, 3, api.OK, api.OK)
			}
		}
	}
	for _, r := range []row{sample.Pairs(64), sample.Singles(0, 24), {pos(sample.Full)}, {neg(sample.Last)}} {
		for _, face := range []bool{false, true} {
			for name, x := range withRows(r, face) {
				want := api.OK
				if name == "HComp" || name == "Transp" { // they bind a dimension, and there is none left
					want = api.ErrTerm
				}
				judged(t, name, x, 0, 24, want, api.OK)
			}
		}
	}
}

func TestRowsThatClash(t *testing.T) {
	for _, r := range []row{{both(1, 1)}, {both(1, 1), pos(2)}, {both(3, 1)}, {neg(2), both(1, 1)}} {
		for name, x := range withRows(r, false) {
			judged(t, name, x, 0, 2, api.OK, api.OK)
		}
		for name, x := range withRows(r, true) {
			noTerm(t, name, x)
		}
	}
}

func TestRowsThatMayNotBe(t *testing.T) {
	for _, r := range sample.WrongFormulas() {
		for name, x := range withRows(r, false) {
			noTerm(t, name, x)
			judged(t, name, x, 0, 24, api.ErrTerm, api.ErrTerm)
		}
	}
	for _, r := range sample.WrongFaces() {
		for name, x := range withRows(r, true) {
			noTerm(t, name, x)
			judged(t, name, x, 0, 23, api.ErrTerm, api.ErrTerm)
		}
	}
}

// P10.2: dimensions that there are, and the one behind the last.

func TestDimensions(t *testing.T) {
	for dims := range 21 {
		for under := range 3 {
			for _, face := range []bool{false, true} {
				for _, sign := range []func(uint32) api.Clause{pos, neg} {
					if dims+under > 0 {
						for name, x := range withRows(row{sign(1 << (dims + under - 1))}, face) {
							judged(t, name, times(under, x, plam), 0, dims, api.OK, api.OK)
						}
					}
					for name, x := range withRows(row{sign(1 << (dims + under))}, face) {
						judged(t, name, times(under, x, plam), 0, dims, api.ErrTerm, api.OK)
					}
				}
			}
		}
	}
}

// Each clause of a row counts, and each dimension of a clause.
func TestOneDimensionOfMany(t *testing.T) {
	for _, r := range []row{{pos(1), pos(8)}, {neg(8), pos(1)}, {both(1, 8)}, {both(8, 1)}, {pos(9)}, {neg(1), neg(2), neg(8)}, {neg(1), neg(8), pos(1)}} {
		for _, face := range []bool{false, true} {
			for name, x := range withRows(r, face) {
				judged(t, name, x, 0, 3, api.ErrTerm, api.OK)
				judged(t, name, x, 0, 4, api.OK, api.OK)
			}
		}
	}
}

// Which Kids stand behind a binder of a dimension; a row of the node itself does not.
func TestWhereDimensionsAreBound(t *testing.T) {
	for kind, f := range sample.Forms() {
		for kid := range len(f.Kids) {
			x := api.Term{Kind: kind}
			for range f.Kids {
				x.Kids = append(x.Kids, univ)
			}
			x.Kids[kid] = loop(0)
			want := api.ErrTerm
			if f.Kids[kid] == 'i' {
				want = api.OK
			}
			judged(t, "a dimension", x, 0, 0, want, api.OK)
			x.Kids[kid] = loop(4)
			judged(t, "the next dimension", x, 0, 4, want, api.OK)
		}
		for part := range len(f.Branch) {
			x := api.Term{Kind: kind}
			for range f.Kids {
				x.Kids = append(x.Kids, univ)
			}
			kids := []api.Term{univ, univ}[:len(f.Branch)]
			kids[part] = loop(0)
			want := api.ErrTerm
			if kind == api.HComp {
				want = api.OK
			}
			judged(t, "a dimension in a branch", grown(x, nil, kids...), 0, 0, want, api.OK)
			judged(t, "in one", grown(x, nil, kids...), 0, 1, api.OK, api.OK)
		}
	}
	for name, x := range withRows(row{pos(1)}, true) {
		judged(t, name+": its own face", x, 0, 0, api.ErrTerm, api.OK)
	}
}

// P10.2: 24 dimensions and 25.

func TestArguments(t *testing.T) {
	for _, dims := range []int{-1, -2, 25, 26, 32, math.MaxInt, math.MinInt} {
		judged(t, "dims", univ, 0, dims, api.ErrArg, api.OK)
		judged(t, "dims", univ, 7, dims, api.ErrArg, api.OK)
	}
	for _, vars := range []int{-1, -2, math.MinInt} {
		judged(t, "vars", univ, vars, 0, api.ErrArg, api.OK)
		judged(t, "vars", univ, vars, 24, api.ErrArg, api.OK)
		judged(t, "both", univ, vars, 25, api.ErrArg, api.OK)
	}
	judged(t, "none", univ, 0, 0, api.OK, api.OK)
	judged(t, "all", univ, math.MaxInt, 24, api.OK, api.OK)
}

func TestTooManyDimensions(t *testing.T) {
	for dims := range 25 {
		judged(t, "24 by binders", times(24-dims, univ, plam), 0, dims, api.OK, api.OK)
		judged(t, "25 by binders", times(25-dims, univ, plam), 0, dims, api.ErrTerm, api.OK)
		judged(t, "many by binders", times(190, univ, plam), 0, dims, api.ErrTerm, api.OK)
		judged(t, "the last dimension", times(24-dims, loop(23), plam), 0, dims, api.OK, api.OK)
		judged(t, "behind the last one", times(24-dims, loop(24), plam), 0, dims, api.ErrTerm, api.ErrTerm)
	}
	binding := map[string]api.Term{
		"Path": node(api.Path, univ, univ, univ), "PLam": plam(univ), "Transp": node(api.Transp, univ, univ),
		"HComp": grown(node(api.HComp, univ, univ), nil, univ), "HComp of two": grown(grown(node(api.HComp, univ, univ), row{pos(1)}, univ), row{{}}, univ),
		"HComp, deeper": lam(node(api.Pair, univ, grown(node(api.Unglue, univ), nil, grown(node(api.HComp, univ, univ), nil, univ)))),
	}
	for name, x := range binding {
		judged(t, name, x, 0, 23, api.OK, api.OK)
		judged(t, name, x, 0, 24, api.ErrTerm, api.OK)
	}
	for kind, f := range sample.Forms() {
		x := some(kind, 2)
		if kind == api.HComp {
			x.Sys = nil
		}
		if f.Kids == "" || f.Kids[0] != 'i' {
			judged(t, "it binds none", x, 1, 24, api.OK, api.OK)
		}
	}
	judged(t, "side by side", node(api.Pair, times(24, univ, plam), times(24, univ, plam)), 0, 0, api.OK, api.OK)
	judged(t, "side by side", node(api.Path, univ, times(24, univ, plam), times(24, univ, plam)), 0, 0, api.OK, api.OK)
	judged(t, "not side by side", node(api.Path, times(24, univ, plam), univ, univ), 0, 0, api.ErrTerm, api.OK)
}

// All dimensions of a row that may be are there for a term that is formed, behind any number of binders.
func TestFormedBehindManyBinders(t *testing.T) {
	for under := range 190 {
		for _, face := range []bool{false, true} {
			for name, x := range withRows(row{neg(sample.Last)}, face) {
				judged(t, name, times(under, x, plam), 0, 0, map[bool]api.Errno{true: api.OK, false: api.ErrTerm}[under == 24 && name != "Transp" && name != "HComp"], api.OK)
			}
			for name, x := range withRows(row{pos(1 << 24)}, face) {
				judged(t, name, times(under, x, plam), 0, 0, api.ErrTerm, api.ErrTerm)
			}
		}
	}
}
