package beta

import (
	"slices"
	"testing"

	"hypercube/api"
	"hypercube/dims"
	"hypercube/plug"
	"hypercube/sample"
	"hypercube/term"
)

// rule is a row of the chapter's table: terms of a kind that it allows, and what they become.
type rule struct {
	kind    int
	allows  func(x api.Term) bool
	becomes func(x api.Term) (api.Term, api.Errno)
}

// Which terms a row allows.

func anyTerm(api.Term) bool       { return true }
func isZero(x api.Term) bool      { return len(x.R) == 0 }
func isOne(x api.Term) bool       { return slices.Equal(x.R, one) }
func isOneOrZero(x api.Term) bool { return isZero(x) || isOne(x) }

func hasKid(n, kind int) func(api.Term) bool {
	return func(x api.Term) bool { return x.Kids[n].Kind == kind }
}

// total tells the first branch that is total.
func total(x api.Term) int {
	for n, b := range x.Sys {
		if slices.Equal(b.Face, always) {
			return n
		}
	}
	return -1
}

func isTotal(x api.Term) bool { return total(x) >= 0 }

// What a row makes of a term.

// kid tells the part of a term that is reached by some places.
func kid(places ...int) func(api.Term) (api.Term, api.Errno) {
	return func(x api.Term) (api.Term, api.Errno) {
		for _, n := range places {
			x = x.Kids[n]
		}
		return x, api.OK
	}
}

func leaf(kind int) func(api.Term) (api.Term, api.Errno) {
	return func(api.Term) (api.Term, api.Errno) { return of(kind), api.OK }
}

func branchKid(x api.Term) (api.Term, api.Errno) { return x.Sys[total(x)].Kids[0], api.OK }

// rules tells the table.
func rules() []rule {
	plain := func(make func(api.Term) api.Term) func(api.Term) (api.Term, api.Errno) {
		return func(x api.Term) (api.Term, api.Errno) { return make(x), api.OK }
	}
	return []rule{
		{api.App, hasKid(0, api.Lam), func(x api.Term) (api.Term, api.Errno) { return plug.At(x.Kids[0].Kids[0], 0, x.Kids[1]) }},
		{api.Fst, hasKid(0, api.Pair), kid(0, 0)}, {api.Snd, hasKid(0, api.Pair), kid(0, 1)},
		{api.PApp, isZero, kid(1)}, {api.PApp, isOne, kid(2)},
		{api.PApp, hasKid(0, api.PLam), func(x api.Term) (api.Term, api.Errno) { return dims.Take(x.Kids[0].Kids[0], 0, x.R) }},
		{api.Loop, isOneOrZero, leaf(api.Base)}, {api.Merid, isZero, leaf(api.North)}, {api.Merid, isOne, leaf(api.South)},
		{api.CircleEl, hasKid(3, api.Base), kid(1)},
		{api.CircleEl, hasKid(3, api.Loop), plain(func(x api.Term) api.Term { return papp(x.Kids[2], x.Kids[1], x.Kids[1], x.Kids[3].R) })},
		{api.SuspEl, hasKid(4, api.North), kid(1)}, {api.SuspEl, hasKid(4, api.South), kid(2)},
		{api.SuspEl, hasKid(4, api.Merid), plain(func(x api.Term) api.Term {
			return papp(app(x.Kids[3], x.Kids[4].Kids[0]), x.Kids[1], x.Kids[2], x.Kids[4].R)
		})},
		{api.The, anyTerm, kid(0)}, {api.Transp, isOne, kid(1)},
		{api.HComp, isTotal, func(x api.Term) (api.Term, api.Errno) { return dims.Take(x.Sys[total(x)].Kids[0], 0, one) }},
		{api.Glue, isTotal, branchKid}, {api.MkGlue, isTotal, branchKid},
		{api.Unglue, isTotal, plain(func(x api.Term) api.Term { return app(fst(x.Sys[total(x)].Kids[0]), x.Kids[0]) })},
		{api.Unglue, hasKid(0, api.MkGlue), kid(0, 0)},
	}
}

// rowOf tells the first row of the table that allows a formed term; -1: none does.
func rowOf(table []rule, x api.Term) int {
	return slices.IndexFunc(table, func(r rule) bool { return r.kind == x.Kind && r.allows(x) })
}

// model tells what a step should tell, and the row by which.
func model(table []rule, x api.Term) (api.Term, int, api.Errno) {
	if e := term.Formed(x); e != api.OK {
		return api.Term{}, -1, e
	}
	n := rowOf(table, x)
	if n < 0 {
		return api.Term{}, n, api.OK
	}
	got, e := table[n].becomes(x)
	if e == api.OK {
		e = term.Formed(got)
	}
	return got, n, e
}

// stepper grows terms that mostly step.
type stepper struct {
	*sample.Grower
	table []rule
}

// grow tells a term that may be in so many variables and dimensions, each part of about so many nodes: of a kind that steps, mostly with a Kid of the kind that it asks for.
func (s stepper) grow(vars, dims, nodes int) api.Term {
	kind := s.table[s.Below(len(s.table))].kind
	f := sample.Forms()[kind]
	x := api.Term{Kind: kind, Kids: s.kids(f.Kids, vars, dims, nodes)}
	if f.Formula || f.Face {
		x.R = s.row(dims, f.Face)
	}
	for range s.Below(4) {
		if f.Branch != "" {
			x = grown(x, s.row(dims, true), s.kids(f.Branch, vars, dims, nodes)...)
		}
	}
	if at, kinds := s.inner(kind); kinds != nil {
		x.Kids[at] = s.of(kinds[s.Below(len(kinds))], vars, dims, nodes)
	}
	return x
}

func (s stepper) kids(binds string, vars, dims, nodes int) []api.Term {
	var out []api.Term
	for k := range len(binds) {
		v, d := sample.Inside(binds[k], vars, dims)
		out = append(out, s.Term(v, min(d, api.MaxDims), s.Below(nodes)))
	}
	return out
}

// row tells a formula or a face, which is 0 or 1 often.
func (s stepper) row(dims int, face bool) row {
	switch s.Below(4) {
	case 0:
		return one
	case 1:
		return zero
	}
	return s.Row(dims, face)
}

// inner tells the place of the Kid that a kind looks at, and the kinds that it knows there.
func (s stepper) inner(kind int) (int, []int) {
	switch kind {
	case api.App:
		return 0, []int{api.Lam, api.Lam, api.Lam, api.PLam}
	case api.Fst, api.Snd:
		return 0, []int{api.Pair, api.Pair, api.Sigma}
	case api.PApp:
		return 0, []int{api.PLam, api.PLam, api.PLam, api.Lam}
	case api.CircleEl:
		return 3, []int{api.Base, api.Loop, api.Loop, api.North}
	case api.SuspEl:
		return 4, []int{api.North, api.South, api.Merid, api.Merid, api.Base}
	case api.Unglue:
		return 0, []int{api.MkGlue, api.MkGlue, api.Glue}
	}
	return 0, nil
}

// of tells a term of a kind.
func (s stepper) of(kind, vars, dims, nodes int) api.Term {
	f := sample.Forms()[kind]
	x := api.Term{Kind: kind, Kids: s.kids(f.Kids, vars, dims, nodes)}
	if f.Formula {
		x.R = s.row(dims, false)
	}
	return x
}

// spoil tells a term of which one part is something that is refused, or may be when something is put there.
func (s stepper) spoil(x api.Term) api.Term {
	x = sample.Plain(x)
	part := s.part(&x)
	switch s.Below(8) {
	case 0:
		*part = s.Far(*part)
	case 1:
		*part = s.Spoilt(*part)
	case 2, 6, 7:
		if x.Kind == api.PApp && len(x.Kids[0].Kids) > 0 {
			part = &x.Kids[0].Kids[0]
		}
		*part = pair(*part, wide(20+s.Below(45), 1, both(uint32(s.Below(2)), uint32(s.Below(2)))))
	case 3, 4:
		*part = times(90+s.Below(110), *part, fst)
	case 5:
		*part = pair(*part, sample.Balanced(9950+s.Below(100)))
	}
	return x
}

// part tells one of a term: often one that comes to stand elsewhere.
func (s stepper) part(x *api.Term) *api.Term {
	for n := s.Below(3); n >= 0 && len(x.Kids) > 0; n-- {
		x = &x.Kids[s.Below(min(2, len(x.Kids)))]
	}
	return x
}

// P16.1 by the table, on terms of all its rows.
func TestByTheTable(t *testing.T) {
	table := rules()
	rows, refused, nothing := map[int]int{}, map[api.Errno]int{}, 0
	for seed := range uint32(30000) {
		s := stepper{sample.Grow(seed), table}
		x := s.grow(s.Below(5), []int{0, 1, 2, 3, 5, 9, 14, 20, 21, 22, 23, 24}[s.Below(12)], 1+s.Below(30))
		if s.Below(3) == 0 {
			x = s.spoil(x)
		}
		want, n, wantE := model(table, x)
		steps(t, x, want, wantE)
		switch {
		case wantE != api.OK:
			refused[wantE]++
		case n < 0:
			nothing++
		default:
			rows[n]++
		}
		if t.Failed() {
			t.Fatalf("the seed %d", seed)
		}
	}
	for n, r := range table {
		if rows[n] < 100 {
			t.Errorf("the row %d, of the kind %d, was there %d times only", n, r.kind, rows[n])
		}
	}
	for _, e := range []api.Errno{api.ErrTerm, api.ErrDeep, api.ErrSize, api.ErrDims, api.ErrBig} {
		if refused[e] < 10 {
			t.Errorf("the refusal %d was there %d times only", e, refused[e])
		}
	}
	if nothing < 1000 {
		t.Errorf("nothing stepped %d times only", nothing)
	}
}
