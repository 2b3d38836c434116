package hit

import (
	"testing"

	"hypercube/api"
	"hypercube/dims"
	"hypercube/formula"
	"hypercube/lift"
	"hypercube/plug"
	"hypercube/sample"
	"hypercube/term"
)

// refusal is what a part is refused with: it ends all making.
type refusal api.Errno

// must tells a part, unless it is refused.
func must(x api.Term, e api.Errno) api.Term {
	if e != api.OK {
		panic(refusal(e))
	}
	return x
}

// checked tells a term that is whole.
func checked(x api.Term) api.Term { return must(x, term.Formed(x)) }

// up tells a term under so many dimensions more.
func up(x api.Term, by int) api.Term { return must(lift.Both(x, 0, by)) }

// moved tells a line under one dimension more: its own stays.
func moved(line api.Term) api.Term { return must(lift.Dims(must(lift.Vars(line, 0, 0)), 1, 1)) }

// movedFace tells a face under one dimension more.
func movedFace(f row) row {
	out, e := formula.Lift(f, 0, 1)
	must(api.Term{}, e)
	return out
}

// inside tells what a line is two binders further in, at a formula.
func inside(line api.Term, r ...api.Clause) api.Term {
	return must(dims.Take(must(lift.Dims(line, 1, 2)), 0, r))
}

// fillerOf tells chapter 15's Fill of a composition.
func fillerOf(h api.Term) api.Term {
	out := comp(up(h.Kids[0], 1), up(h.Kids[1], 1))
	for _, b := range h.Sys {
		out = grown(out, movedFace(b.Face), inside(b.Kids[0], pos(3)))
	}
	return checked(grown(out, row{neg(1)}, up(h.Kids[1], 2)))
}

// composedAlong tells chapter 15's Comp.
func composedAlong(line, a api.Term, sys system) api.Term {
	checked(line)
	checked(a)
	checked(comp(univ, univ, sys...))
	out := comp(must(dims.Take(line, 0, always)), along(never, line, a))
	for _, b := range sys {
		out = grown(out, b.Face, along(row{pos(1)}, inside(line, pos(1), pos(2)), b.Kids[0]))
	}
	return checked(out)
}

// elimModel tells what an eliminator of a composition becomes.
func elimModel(x api.Term) api.Term {
	last := len(x.Kids) - 1
	h := x.Kids[last]
	fill := fillerOf(h)
	line := must(plug.At(up(x.Kids[0], 1), 0, fill))
	first := of(x.Kind, x.Kids...)
	first.Kids[last] = h.Kids[1]
	var sys system
	for _, b := range h.Sys {
		el := of(x.Kind)
		for _, part := range x.Kids[:last] {
			el.Kids = append(el.Kids, up(part, 1))
		}
		el.Kids = append(el.Kids, b.Kids[0])
		sys = append(sys, at(b.Face, el))
	}
	return composedAlong(line, first, sys)
}

// carryModel tells what becomes of what is carried along suspensions.
func carryModel(x api.Term) api.Term {
	line, a := x.Kids[0], x.Kids[1]
	switch a.Kind {
	case api.Merid:
		return checked(merid(along(x.R, line.Kids[0], a.Kids[0]), a.R))
	case api.HComp:
		out := comp(must(dims.Take(line, 0, always)), along(x.R, line, a.Kids[1]))
		for _, b := range a.Sys {
			out = grown(out, b.Face, along(movedFace(x.R), moved(line), b.Kids[0]))
		}
		return checked(out)
	}
	return a
}

// The rows of the chapter.
const (
	noRow = iota
	circleRow
	suspRow
	northRow
	southRow
	meridRow
	compRow
	allRows
)

// rowOf tells by which row a formed term becomes something, and which of the two tells it.
func rowOf(x api.Term) (int, string) {
	has := func(n, kind int) bool { return x.Kids[n].Kind == kind }
	switch {
	case x.Kind == api.CircleEl && has(3, api.HComp):
		return circleRow, "Elim"
	case x.Kind == api.SuspEl && has(4, api.HComp):
		return suspRow, "Elim"
	case x.Kind != api.Transp || !has(0, api.Susp):
		return noRow, ""
	}
	return map[int]int{api.North: northRow, api.South: southRow, api.Merid: meridRow, api.HComp: compRow}[x.Kids[1].Kind], "Carry"
}

// model tells what one of the two tells, and by which row.
func model(name string, x api.Term) (want api.Term, at int, e api.Errno) {
	defer func() {
		if r, ok := recover().(refusal); ok {
			want, e = api.Term{}, api.Errno(r)
		}
	}()
	checked(x)
	at, by := rowOf(x)
	switch {
	case at == noRow || by != name:
		return api.Term{}, noRow, api.OK
	case by == "Elim":
		return elimModel(sample.Plain(x)), at, api.OK
	}
	return carryModel(x), at, api.OK
}

// comer grows terms that mostly become something.
type comer struct{ *sample.Grower }

// grow tells one that may be in so many variables and dimensions, each part of which has about so many nodes.
func (c comer) grow(vars, dims, nodes int) api.Term {
	some := func(v, d int) api.Term { return c.Term(vars+v, min(dims+d, api.MaxDims), c.Below(nodes)) }
	what := func(usual api.Term) api.Term {
		if c.Below(12) == 0 {
			return some(0, 0)
		}
		return usual
	}
	h := comp(some(0, 0), some(0, 0))
	for range c.Below(4) {
		h = grown(h, c.Row(dims, true), some(0, 1))
	}
	switch c.Below(5) {
	case 0, 1:
		return of(api.CircleEl, some(1, 0), some(0, 0), some(0, 0), what(h))
	case 2, 3:
		return of(api.SuspEl, some(1, 0), some(0, 0), some(0, 0), some(0, 0), what(h))
	}
	line := susp(some(0, 1))
	if c.Below(12) == 0 {
		line = line.Kids[0]
	}
	a := []api.Term{north, south, merid(some(0, 0), c.Row(dims, false)), h, h, h}[c.Below(6)]
	return along(c.Row(dims, true), line, what(a))
}

// spoil tells a term, one part of which is something that is refused, or may be when it goes elsewhere.
func (c comer) spoil(x api.Term) api.Term {
	x = sample.Plain(x)
	part := c.part(&x)
	switch c.Below(10) {
	case 0:
		*part = c.Far(*part)
	case 1:
		*part = c.Spoilt(*part)
	case 2, 3:
		*part = pair(*part, v(billion-1+c.Below(4)))
	case 4, 5, 6:
		*part = pair(*part, wide(32+c.Below(4), both(uint32(c.Below(2)), uint32(c.Below(2)))))
	case 7, 8:
		*part = times(170+c.Below(30), *part, fst)
	case 9:
		*part = pair(*part, sample.Balanced(5000+c.Below(5000)))
	}
	return x
}

// part tells one of a term: a Kid, or what stands in a composition.
func (c comer) part(x *api.Term) *api.Term {
	for range 1 + c.Below(2) {
		all := x.Kids
		for n := range x.Sys {
			if c.Below(2) == 0 {
				all = x.Sys[n].Kids
			}
		}
		if len(all) == 0 {
			return x
		}
		x = &all[c.Below(len(all))]
	}
	return x
}

// P17.1 and P17.2 by another road, on terms of all rows.
func TestByTheModel(t *testing.T) {
	rows, refused := map[int]int{}, map[int]map[api.Errno]int{}
	for row := range allRows {
		refused[row] = map[api.Errno]int{}
	}
	for seed := range uint32(10000) {
		c := comer{sample.Grow(seed)}
		x := c.grow(c.Below(5), []int{0, 1, 2, 3, 5, 9, 14, 20, 21, 22, 23, 24}[c.Below(12)], 1+c.Below(30))
		if c.Below(3) == 0 {
			x = c.spoil(x)
		}
		for name := range calls() {
			want, row, e := model(name, x)
			becomes(t, name, x, want, e)
			if e == api.OK {
				rows[row]++
			}
			refused[row][e]++
		}
		if t.Failed() {
			t.Fatalf("the seed %d", seed)
		}
	}
	for row := range allRows {
		if rows[row] < 100 {
			t.Errorf("the row %d was there %d times only", row, rows[row])
		}
	}
	for row, all := range map[int][]api.Errno{
		noRow: {api.ErrTerm}, circleRow: {api.ErrTerm, api.ErrDeep, api.ErrSize, api.ErrDims, api.ErrBig}, suspRow: {api.ErrTerm, api.ErrDeep, api.ErrSize, api.ErrDims, api.ErrBig}, compRow: {api.ErrTerm, api.ErrDims},
	} {
		for _, e := range all {
			if refused[row][e] < 3 {
				t.Errorf("of the row %d the refusal %d was there %d times only", row, e, refused[row][e])
			}
		}
	}
}
