package scope

import (
	"slices"

	"hypercube/api"
	"hypercube/sample"
)

// form is what a kind of terms has, as chapter 10 tells it: its Kids, a letter each (x where one binds a variable, i a dimension, - nothing), those of a branch, and whether it has a formula or a face.
type form struct {
	kids, branch  string
	formula, face bool
}

var forms = map[int]form{
	api.Var: {}, api.Const: {}, api.Univ: {}, api.Circle: {}, api.Base: {}, api.North: {}, api.South: {},
	api.Pi: {kids: "-x"}, api.Sigma: {kids: "-x"}, api.Lam: {kids: "x"}, api.App: {kids: "--"}, api.Pair: {kids: "--"}, api.Fst: {kids: "-"}, api.Snd: {kids: "-"}, api.Susp: {kids: "-"},
	api.Path: {kids: "i--"}, api.PLam: {kids: "i"}, api.PApp: {kids: "---", formula: true}, api.Transp: {kids: "i-", face: true},
	api.HComp: {kids: "--", branch: "i"}, api.Glue: {kids: "-", branch: "--"}, api.MkGlue: {kids: "-", branch: "-"}, api.Unglue: {kids: "-", branch: "-"},
	api.Loop: {formula: true}, api.CircleEl: {kids: "x---"}, api.Merid: {kids: "-", formula: true}, api.SuspEl: {kids: "x----"}, api.The: {kids: "--"},
}

// mayBe tells whether a term may be in so many variables and dimensions, but for how great and how deep it is.
func mayBe(t api.Term, vars, dims int) bool {
	f, there := forms[t.Kind]
	if !there || dims > api.MaxDims || !fieldsFit(t, f, vars, dims) || !kidsFit(t.Kids, f.kids, vars, dims) {
		return false
	}
	for _, b := range t.Sys {
		if f.branch == "" || !rowFits(b.Face, dims, true) || !kidsFit(b.Kids, f.branch, vars, dims) {
			return false
		}
	}
	return true
}

func fieldsFit(t api.Term, f form, vars, dims int) bool {
	if t.Kind == api.Var && (t.N < 0 || t.N >= vars) || t.Kind != api.Var && t.N != 0 {
		return false
	}
	if (t.Kind == api.Const) != isName(t.Name) || t.Kind != api.Const && t.Name != "" {
		return false
	}
	if f.formula || f.face {
		return rowFits(t.R, dims, f.face)
	}
	return len(t.R) == 0
}

func kidsFit(l []api.Term, binds string, vars, dims int) bool {
	if len(l) != len(binds) {
		return false
	}
	for k, t := range l {
		v, d := vars, dims
		switch binds[k] {
		case 'x':
			v++
		case 'i':
			d++
		}
		if !mayBe(t, v, d) {
			return false
		}
	}
	return true
}

// rowFits tells whether a row is a formula, or a face, in so many dimensions.
func rowFits(row []api.Clause, dims int, face bool) bool {
	for _, c := range row {
		if c.Pos>>dims != 0 || c.Neg>>dims != 0 || face && c.Pos&c.Neg != 0 {
			return false
		}
	}
	return len(row) <= api.MaxClauses && slices.Equal(row, sample.Least(row))
}

func isName(s string) bool {
	for k, b := range []byte(s) {
		letter := b >= 'a' && b <= 'z' || b >= 'A' && b <= 'Z' || b == '_'
		if !letter && (k == 0 || b < '0' || b > '9') {
			return false
		}
	}
	return s != ""
}
