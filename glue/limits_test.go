package glue

import (
	"slices"
	"testing"

	"hypercube/api"
	"hypercube/sample"
	"hypercube/term"
)

// sized is how many nodes the parts of a term have: of the type that is glued, of what is composed or carried, of a branch's type and equivalence, of what the composition's branches have; and how many there are.
type sized struct{ a, b, t, e, u, pieces, walls int }

// merged tells a composition in a glued type, of such parts.
func (s sized) merged() api.Term {
	return comp(s.glued(row{pos(1)}), sample.Balanced(s.b), slices.Repeat(system{at(row{neg(1)}, sample.Balanced(s.u))}, s.walls)...)
}

// glued tells a glued type, with the same face for all branches.
func (s sized) glued(f row) api.Term {
	g := glued(sample.Balanced(s.a))
	for range s.pieces {
		g.Sys = append(g.Sys, at(f, sample.Balanced(s.t), sample.Balanced(s.e)))
	}
	return g
}

// mergedSize tells how many nodes that becomes.
func (s sized) mergedSize() int {
	es, us := s.pieces*s.e, s.walls*s.u
	filler := 1 + s.t + 2*s.b + us
	h := 1 + s.a + 1 + s.b + es + s.walls*(1+es) + us + s.pieces*(2+s.e+filler)
	return 1 + h + s.pieces*(1+s.t+s.b+us)
}

// bending is where all branches of a line are: at its end alone, or all along it; and phi.
type bending struct {
	f   row
	phi row
}

// stays tells whether the branches stay.
func (w bending) stays() bool { return w.f[0] != pos(1) }

// carriedSize tells how many nodes a line of such parts becomes.
func (s sized) carriedSize(w bending) int {
	a0, known, xs := 1+s.b, 0, 0
	if w.stays() {
		a0 += s.pieces * s.e
	}
	a1 := 2 + 2*s.a + a0
	if len(w.phi) > 0 {
		a1 += 1 + s.a + a0
		known, xs = 1, s.b
	}
	if w.stays() {
		a1 += s.pieces * (4 + s.a + s.e + s.t + s.b)
		known += s.pieces
		xs += s.pieces * (1 + s.t + s.b)
	}
	center := 2 + s.e + a1
	one := 1 + (5 + s.t + s.a + a1 + s.e) + 1 + center + known*(8+2*center+2*a1) + 2*xs
	all := 2 + s.a + a1 + s.pieces*(6+3*one+a1+s.e)
	if len(w.phi) > 0 {
		all += a1
	}
	return all
}

// limited holds what a term becomes against how many nodes that has to have, which may be too many.
func limited(t *testing.T, name string, x api.Term, size int) {
	t.Helper()
	got, ok, e := calls()[name](x)
	want := api.OK
	if size > api.MaxSize {
		want = api.ErrSize
	}
	if term.Formed(x) != api.OK || e != want || ok != (e == api.OK) || ok && term.Size(got) != size || !ok && got.Kind != 0 {
		t.Errorf("%s(%s): %t, %d, %d nodes, not %d, %d", name, short(x), ok, e, term.Size(got), want, size)
	}
}

// exactly tells parts, one of which is great, and the others as small as they were or a little greater: so that they become so many nodes.
func exactly(t *testing.T, s sized, main func(*sized) *int, size func(sized) int, nodes int) sized {
	t.Helper()
	*main(&s) = 1
	for n := range 20000 {
		x := s
		x.a, x.b, x.t, x.e = s.a+n%20, s.b+n/20%10, s.t+n/200%10, s.e+n/2000
		from := size(x)
		*main(&x)++
		if each := size(x) - from; nodes > from && (nodes-from)%each == 0 {
			*main(&x) += (nodes-from)/each - 1
			return x
		}
	}
	t.Errorf("no parts become %d nodes: %v", nodes, s)
	return s
}

func ofA(s *sized) *int { return &s.a }
func ofB(s *sized) *int { return &s.b }
func ofT(s *sized) *int { return &s.t }
func ofE(s *sized) *int { return &s.e }
func ofU(s *sized) *int { return &s.u }

// around holds answers that are as great as may be, and such with a node more.
func around(t *testing.T, name string, s sized, main func(*sized) *int, whole func(sized) api.Term, size func(sized) int) {
	t.Helper()
	for nodes := api.MaxSize - 1; nodes <= api.MaxSize+1; nodes++ {
		x := exactly(t, s, main, size, nodes)
		limited(t, name, whole(x), size(x))
	}
}

func TestGreatMerges(t *testing.T) {
	for _, x := range []struct {
		main func(*sized) *int
		s    sized
	}{
		{ofA, sized{1, 1, 1, 1, 1, 0, 0}}, {ofB, sized{1, 1, 1, 1, 1, 0, 0}}, {ofU, sized{1, 1, 1, 1, 1, 0, 1}}, {ofU, sized{1, 1, 1, 1, 1, 0, 3}}, {ofA, sized{1, 1, 1, 1, 1, 0, 2}},
		{ofB, sized{1, 1, 1, 1, 1, 1, 0}}, {ofT, sized{1, 1, 1, 1, 1, 1, 0}}, {ofE, sized{1, 1, 1, 1, 1, 1, 0}}, {ofE, sized{1, 1, 1, 1, 1, 1, 2}}, {ofU, sized{1, 1, 1, 1, 1, 1, 1}}, {ofT, sized{1, 1, 1, 1, 1, 3, 2}}, {ofU, sized{1, 2, 1, 3, 1, 3, 2}}, {ofE, sized{1, 5, 2, 3, 4, 4, 5}}, {ofA, sized{1, 5, 2, 3, 4, 1, 0}}, {ofB, sized{1, 5, 2, 3, 4, 3, 1}},
	} {
		around(t, "Merge", x.s, x.main, sized.merged, sized.mergedSize)
	}
}

func TestGreatCarries(t *testing.T) {
	for _, w := range []bending{{own, never}, {own, own}, {row{pos(2)}, never}, {row{pos(2)}, row{neg(1)}}} {
		whole := func(s sized) api.Term { return along(w.phi, s.glued(w.f), sample.Balanced(s.b)) }
		size := func(s sized) int { return s.carriedSize(w) }
		for _, main := range []func(*sized) *int{ofA, ofB} {
			around(t, "Carry", sized{1, 1, 1, 1, 1, 0, 0}, main, whole, size)
		}
		for _, main := range []func(*sized) *int{ofA, ofB, ofT, ofE} {
			around(t, "Carry", sized{1, 1, 1, 1, 1, 1, 0}, main, whole, size)
			around(t, "Carry", sized{1, 2, 3, 1, 1, 2, 0}, main, whole, size)
		}
	}
}

// Many branches: what they become is far too great, and that is told soon; or a branch is too deep by itself, wherever it is.
func TestManyBranches(t *testing.T) {
	for _, s := range []sized{{1, 1, 1, 1, 1, 400, 2000}, {1, 6000, 1, 1, 1, 300, 300}, {1, 1, 1, 1, 6000, 300, 1}, {1, 1, 1, 1000, 1, 1, 5000}} {
		limited(t, "Merge", s.merged(), s.mergedSize())
		for _, n := range []int{0, s.pieces - 1} {
			x := s.merged()
			x.Kids[0].Sys[n].Kids[1] = tall(197)
			becomes(t, "Merge", x, api.Term{}, api.ErrDeep)
		}
	}
	for _, w := range []bending{{own, never}, {row{pos(2)}, never}, {own, row{neg(1)}}} {
		for _, s := range []sized{{1, 1, 1, 1, 0, 600, 0}, {1, 1, 1, 1, 0, 9000, 0}, {1000, 1, 1, 1, 0, 100, 0}, {1, 5000, 1, 1, 0, 300, 0}} {
			x := along(w.phi, s.glued(w.f), sample.Balanced(s.b))
			limited(t, "Carry", x, s.carriedSize(w))
			x.Kids[0].Sys[s.pieces-1].Kids[1] = tall(198)
			becomes(t, "Carry", x, api.Term{}, api.ErrDeep)
		}
	}
}

// The deepest answers that may be, and those that are one deeper: how much deeper they are than a part, and how deep the part stands in what is handed in.
func TestDeep(t *testing.T) {
	plain := func() args {
		x := bare()
		x.f1, x.f2 = own, own
		return x
	}
	known := func() args {
		x := plain()
		x.bare = false
		return x
	}
	// Of the first branch alone.
	one := func(x args) api.Term {
		whole := x.carried()
		whole.Kids[0].Sys = whole.Kids[0].Sys[:1]
		return whole
	}
	for n, x := range []struct {
		call       string
		from       func() args
		whole      func(args) api.Term
		place      place
		in, deeper int
	}{
		{"Merge", sane, args.merged, inA, 2, 2}, {"Merge", sane, args.merged, inT1, 2, 4}, {"Merge", sane, args.merged, inT2, 2, 4}, {"Merge", sane, args.merged, inE1, 2, 4}, {"Merge", sane, args.merged, inE2, 2, 4}, {"Merge", sane, args.merged, inB, 1, 4}, {"Merge", sane, args.merged, inU1, 1, 4}, {"Merge", sane, args.merged, inU2, 1, 4},
		{"Carry", plain, args.carried, inA, 2, 10}, {"Carry", plain, args.carried, inT1, 2, 7}, {"Carry", plain, args.carried, inE1, 2, 10}, {"Carry", plain, args.carried, inE2, 2, 10}, {"Carry", plain, args.carried, inB, 1, 11},
		{"Carry", known, one, inA, 2, 12}, {"Carry", known, args.carried, inT1, 2, 7}, {"Carry", known, args.carried, inT2, 2, 7}, {"Carry", known, args.carried, inE1, 2, 11}, {"Carry", known, args.carried, inE2, 2, 11}, {"Carry", known, args.carried, inB, 1, 13},
		{"Carry", bare, one, inA, 2, 12}, {"Carry", bare, args.carried, inT1, 2, 14}, {"Carry", bare, args.carried, inE1, 2, 14}, {"Carry", bare, args.carried, inT2, 2, 7}, {"Carry", bare, args.carried, inE2, 2, 11}, {"Carry", bare, args.carried, inB, 1, 14},
	} {
		for depth := 184; depth+x.in <= 200; depth++ {
			from := x.from()
			*x.place(&from) = tall(depth)
			got, ok, e := calls()[x.call](x.whole(from))
			want := api.OK
			if depth+x.deeper > api.MaxDepth {
				want = api.ErrDeep
			}
			if e != want || ok != (e == api.OK) || ok && term.Depth(got) != depth+x.deeper {
				t.Errorf("%s %d, %d deep: %t, %d, %d deep, not %d", x.call, n, depth, ok, e, term.Depth(got), want)
			}
		}
	}
}

// Without a branch there is not so much around what is composed, or carried.
func TestDeepWithoutBranches(t *testing.T) {
	for depth := 184; depth < 200; depth++ {
		for name, x := range map[string]struct {
			from   api.Term
			deeper int
		}{"Merge": {comp(glued(univ), tall(depth)), 3}, "Carry": {along(never, glued(univ), tall(depth)), 5}} {
			got, _, e := calls()[name](x.from)
			if wrong := depth+x.deeper > api.MaxDepth; wrong != (e == api.ErrDeep) || !wrong && term.Depth(got) != depth+x.deeper {
				t.Errorf("%s, %d deep: %d, %d deep", name, depth, e, term.Depth(got))
			}
		}
	}
}
