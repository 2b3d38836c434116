package scope

import "hypercube/api"

// argument is what a word asks of one of its arguments.
type argument int

const (
	aTerm argument = iota
	aLine
	aBinder
	aFace   // a Box of faces alone
	aLines  // a Box of faces with a line each
	aPairs  // a Box of faces with a Pair each
	aSystem // a Box of faces with a term each
)

// word is one of the language: the kind of its term, and what it takes.
type word struct {
	kind  int
	takes []argument
}

// words tells the words of the language.
func words() map[string]word {
	return map[string]word{
		"U":        {kind: api.Univ},
		"S1":       {kind: api.Circle},
		"base":     {kind: api.Base},
		"north":    {kind: api.North},
		"south":    {kind: api.South},
		"loop":     {kind: api.Loop},
		"fst":      {kind: api.Fst, takes: []argument{aTerm}},
		"snd":      {kind: api.Snd, takes: []argument{aTerm}},
		"Susp":     {kind: api.Susp, takes: []argument{aTerm}},
		"unglue":   {kind: api.Unglue, takes: []argument{aTerm}},
		"merid":    {kind: api.Merid, takes: []argument{aTerm}},
		"glue":     {kind: api.MkGlue, takes: []argument{aTerm, aSystem}},
		"Glue":     {kind: api.Glue, takes: []argument{aTerm, aPairs}},
		"Path":     {kind: api.Path, takes: []argument{aLine, aTerm, aTerm}},
		"transp":   {kind: api.Transp, takes: []argument{aLine, aFace, aTerm}},
		"hcomp":    {kind: api.HComp, takes: []argument{aTerm, aLines, aTerm}},
		"S1elim":   {kind: api.CircleEl, takes: []argument{aBinder, aTerm, aTerm, aTerm}},
		"Suspelim": {kind: api.SuspEl, takes: []argument{aBinder, aTerm, aTerm, aTerm, aTerm}},
	}
}

// needsFormula tells whether the word has a term only ahead of `@`: the term is one at a formula.
func (w word) needsFormula() bool { return w.kind == api.Loop || w.kind == api.Merid }
