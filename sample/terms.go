package sample

import (
	"math"
	"slices"

	"hypercube/api"
)

// Form is what a kind of terms has, as chapter 10 tells it: its Kids, a letter each (x where one binds a variable, i a dimension, - nothing), those of a branch, and whether it has a formula or a face.
type Form struct {
	Kids, Branch  string
	Formula, Face bool
}

// Forms tells that of each kind.
func Forms() map[int]Form {
	return map[int]Form{
		api.Var: {}, api.Const: {}, api.Univ: {}, api.Circle: {}, api.Base: {}, api.North: {}, api.South: {},
		api.Pi: {Kids: "-x"}, api.Sigma: {Kids: "-x"}, api.Lam: {Kids: "x"}, api.App: {Kids: "--"}, api.Pair: {Kids: "--"}, api.Fst: {Kids: "-"}, api.Snd: {Kids: "-"}, api.Susp: {Kids: "-"},
		api.Path: {Kids: "i--"}, api.PLam: {Kids: "i"}, api.PApp: {Kids: "---", Formula: true}, api.Transp: {Kids: "i-", Face: true},
		api.HComp: {Kids: "--", Branch: "i"}, api.Glue: {Kids: "-", Branch: "--"}, api.MkGlue: {Kids: "-", Branch: "-"}, api.Unglue: {Kids: "-", Branch: "-"},
		api.Loop: {Formula: true}, api.CircleEl: {Kids: "x---"}, api.Merid: {Kids: "-", Formula: true}, api.SuspEl: {Kids: "x----"}, api.The: {Kids: "--"},
	}
}

// MayBe tells whether a term may be in so many variables and dimensions, but for how great and how deep it is.
func MayBe(t api.Term, vars, dims int) bool {
	return judge{Forms(), api.MaxDims}.term(t, vars, dims)
}

// MayBeFormed tells whether it is formed, but for the same, and for a variable with the greatest number that there is.
func MayBeFormed(t api.Term) bool {
	return judge{Forms(), math.MaxInt}.term(t, math.MaxInt-api.MaxSize, api.MaxDims)
}

// judge knows the kinds, and how many dimensions there may be anywhere.
type judge struct {
	forms map[int]Form
	most  int
}

func (j judge) term(t api.Term, vars, dims int) bool {
	f, there := j.forms[t.Kind]
	if !there || dims > j.most || !fieldsFit(t, f, vars, dims) || !j.kids(t.Kids, f.Kids, vars, dims) {
		return false
	}
	for _, b := range t.Sys {
		if f.Branch == "" || !rowFits(b.Face, dims, true) || !j.kids(b.Kids, f.Branch, vars, dims) {
			return false
		}
	}
	return true
}

func (j judge) kids(l []api.Term, binds string, vars, dims int) bool {
	if len(l) != len(binds) {
		return false
	}
	for k, t := range l {
		v, d := Inside(binds[k], vars, dims)
		if !j.term(t, v, d) {
			return false
		}
	}
	return true
}

// Inside tells how many variables and dimensions there are in a part with such a letter, if there are so many around it.
func Inside(letter byte, vars, dims int) (int, int) {
	switch letter {
	case 'x':
		return vars + 1, dims
	case 'i':
		return vars, dims + 1
	}
	return vars, dims
}

func fieldsFit(t api.Term, f Form, vars, dims int) bool {
	if t.Kind == api.Var && (t.N < 0 || t.N >= vars) || t.Kind != api.Var && t.N != 0 {
		return false
	}
	if (t.Kind == api.Const) != isName(t.Name) || t.Kind != api.Const && t.Name != "" {
		return false
	}
	if f.Formula || f.Face {
		return rowFits(t.R, dims, f.Face)
	}
	return len(t.R) == 0
}

// rowFits tells whether a row is a formula, or a face, in so many dimensions.
func rowFits(row []api.Clause, dims int, face bool) bool {
	dims = min(dims, api.MaxDims)
	for _, c := range row {
		if c.Pos>>dims != 0 || c.Neg>>dims != 0 || face && c.Pos&c.Neg != 0 {
			return false
		}
	}
	return len(row) <= api.MaxClauses && slices.Equal(row, Least(row))
}

func isName(s string) bool {
	for k, b := range []byte(s) {
		letter := b >= 'a' && b <= 'z' || b >= 'A' && b <= 'Z' || b == '_'
		if !letter && (k == 0 || b < '0' || b > '9') {
			return false
		}
	}
	return s != ""
}
