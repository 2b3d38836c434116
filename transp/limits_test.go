package transp

import (
	"testing"

	"hypercube/api"
	"hypercube/sample"
	"hypercube/term"
)

// sized is how many nodes the parts of a term have, and how often the second type has its variable.
type sized struct{ a, b, u, w, x, often int }

// hanging tells a type of so many nodes that has its variable so often; it has to have room for that.
func (s sized) hanging() api.Term {
	b := having(api.MkGlue, sample.Balanced(s.b-1-s.often))
	for range s.often {
		b.Sys = append(b.Sys, at(always, v(0)))
	}
	return b
}

func (s sized) functions(phi row) api.Term {
	return along(phi, pi(sample.Balanced(s.a), s.hanging()), sample.Balanced(s.x))
}

func (s sized) pairs(phi row) api.Term {
	return along(phi, sigma(sample.Balanced(s.a), s.hanging()), sample.Balanced(s.x))
}

func (s sized) paths(phi row) api.Term {
	return along(phi, paths(sample.Balanced(s.a), sample.Balanced(s.u), sample.Balanced(s.w)), sample.Balanced(s.x))
}

// sizes tells how many nodes these become.
func (s sized) functionsSize(row) int { return 5 + s.a + s.b + s.x + s.often*(s.a+1) }
func (s sized) pairsSize(row) int     { return 5 + s.a + s.b + 2*s.x + s.often*(s.a+s.x+1) }
func (s sized) pathsSize(phi row) int {
	size := 6 + 4*s.a + s.x + 2*s.u + 2*s.w
	if len(phi) > 0 {
		size += 2 + s.a + s.x + s.u + s.w
	}
	return size
}

// limited holds what a term becomes against how many nodes that has to have, which may be too many.
func limited(t *testing.T, x api.Term, size int) {
	t.Helper()
	got, ok, e := Step(x)
	want := api.OK
	if size > api.MaxSize {
		want = api.ErrSize
	}
	if term.Formed(x) != api.OK || e != want || ok != (e == api.OK) || ok && term.Size(got) != size || !ok && got.Kind != 0 {
		t.Errorf("Step(%s): %t, %d, %d nodes, not %d, %d", short(x), ok, e, term.Size(got), want, size)
	}
}

// exactly tells parts, one of which is great, and the others as small as they were or a little greater: so that they become so many nodes.
func exactly(t *testing.T, s sized, main func(*sized) *int, size func(sized) int, nodes int) sized {
	t.Helper()
	for n := range 20000 {
		x := s
		x.a, x.b, x.x, x.u = s.a+n%20, s.b+n/20%10, s.x+n/200%10, s.u+n/2000
		from := size(x)
		*main(&x)++
		if each := size(x) - from; nodes > from && (nodes-from)%each == 0 {
			*main(&x) += (nodes-from)/each - 1
			return x
		}
	}
	t.Errorf("no parts become %d nodes: %v", nodes, s)
	return s
}

// Answers that are as great as may be, and such with a node more.
func TestGreat(t *testing.T) {
	ofA, ofB := func(s *sized) *int { return &s.a }, func(s *sized) *int { return &s.b }
	ofU, ofW := func(s *sized) *int { return &s.u }, func(s *sized) *int { return &s.w }
	ofX := func(s *sized) *int { return &s.x }
	type made struct {
		whole func(sized, row) api.Term
		size  func(sized, row) int
	}
	functions, pairs, lines := made{sized.functions, sized.functionsSize}, made{sized.pairs, sized.pairsSize}, made{sized.paths, sized.pathsSize}
	for _, x := range []struct {
		made
		phi   row
		often int
		main  func(*sized) *int
	}{
		{functions, never, 0, ofB}, {functions, own, 1, ofA}, {functions, own, 1, ofB}, {functions, own, 2, ofX}, {functions, own, 7, ofA}, {functions, always, 20, ofA}, {functions, never, 3, ofX},
		{pairs, never, 0, ofA}, {pairs, never, 0, ofB}, {pairs, own, 1, ofA}, {pairs, own, 1, ofB}, {pairs, own, 1, ofX}, {pairs, own, 7, ofX}, {pairs, always, 20, ofX}, {pairs, never, 3, ofA},
		{lines, never, 0, ofA}, {lines, never, 0, ofU}, {lines, never, 0, ofW}, {lines, own, 0, ofA}, {lines, own, 0, ofU}, {lines, own, 0, ofW}, {lines, own, 0, ofX}, {lines, always, 0, ofX},
	} {
		for nodes := api.MaxSize; nodes <= api.MaxSize+1; nodes++ {
			size := func(s sized) int { return x.size(s, x.phi) }
			s := exactly(t, sized{1, x.often + 2, 1, 1, 1, x.often}, x.main, size, nodes)
			limited(t, x.whole(s, x.phi), nodes)
		}
	}
	// What is put in many places is far too great, and that is told soon.
	limited(t, sized{a: 4000, b: 9000, x: 4000, often: 8000}.functions(own), api.MaxSize+1)
	limited(t, sized{a: 4000, b: 9000, x: 4000, often: 8000}.pairs(own), api.MaxSize+1)
}

// As great as may be handed in: what stays is so handed out, and Swap never makes a term greater.
func TestGreatTermsThatStay(t *testing.T) {
	for _, nodes := range []int{api.MaxSize - 2, api.MaxSize - 1} {
		x := along(own, circle, sample.Bushy(nodes))
		want, e := sample.Bushy(nodes), api.OK
		if nodes+2 > api.MaxSize {
			e = api.ErrSize
		}
		becomes(t, x, want, e)
	}
	for _, x := range []api.Term{sized{b: api.MaxSize, often: 9000}.hanging(), sample.Balanced(api.MaxSize), tall(api.MaxDepth), times(api.MaxDepth-1, loop(23), plam)} {
		swaps(t, x, x, api.OK)
	}
	swaps(t, sample.Bushy(api.MaxSize+1), api.Term{}, api.ErrSize)
	swaps(t, tall(api.MaxDepth+1), api.Term{}, api.ErrDeep)
	deep := times(api.MaxDepth-2, univ, fst)
	becomes(t, along(own, univ, deep), deep, api.OK)
	becomes(t, along(own, univ, fst(deep)), api.Term{}, api.ErrDeep)
}

// The deepest answers that may be, and those that are one deeper: how much deeper they are than a part, and how deep the part stands in what is handed in.
func TestDeep(t *testing.T) {
	one := args{univ, univ, univ, univ, univ, own}
	hanging, never := one, one
	hanging.b, never.phi = v(0), row{}
	for n, x := range []struct {
		from       args
		whole      func(args) api.Term
		place      place
		in, deeper int
	}{
		{one, args.functions, inA, 2, 4}, {one, args.functions, inB, 2, 2}, {one, args.functions, inX, 1, 3}, {hanging, args.functions, inA, 2, 4}, {never, args.functions, inX, 1, 3},
		{one, args.pairs, inA, 2, 2}, {one, args.pairs, inB, 2, 2}, {one, args.pairs, inX, 1, 3}, {hanging, args.pairs, inA, 2, 3}, {hanging, args.pairs, inX, 1, 4},
		{one, args.paths, inA, 2, 3}, {one, args.paths, inU, 2, 4}, {one, args.paths, inW, 2, 4}, {one, args.paths, inX, 1, 4}, {never, args.paths, inA, 2, 3}, {never, args.paths, inU, 2, 4}, {never, args.paths, inW, 2, 4}, {never, args.paths, inX, 1, 4},
	} {
		for depth := 184; depth+x.in <= api.MaxDepth; depth++ {
			from := x.from
			*x.place(&from) = tall(depth)
			got, ok, e := Step(x.whole(from))
			want := api.OK
			if depth+x.deeper > api.MaxDepth {
				want = api.ErrDeep
			}
			if e != want || ok != (e == api.OK) || ok && term.Depth(got) != depth+x.deeper {
				t.Errorf("%d, %d deep: %t, %d, %d deep, not %d", n, depth, ok, e, term.Depth(got), want)
			}
		}
	}
}

// A part of a pair's line that is not put anywhere is made all the same: so what is carried may be too deep for it.
func TestRunsAreMade(t *testing.T) {
	x := along(never, sigma(univ, univ), tall(199))
	becomes(t, x, api.Term{}, api.ErrDeep)
	for _, e := range []struct {
		a, x api.Term
		want api.Errno
	}{{v(billion), univ, api.OK}, {v(billion + 1), univ, api.ErrTerm}, {univ, v(billion), api.OK}, {univ, v(billion + 1), api.ErrTerm}, {loop(21), univ, api.OK}, {loop(22), univ, api.ErrDims}, {univ, loop(22), api.OK}, {univ, loop(23), api.ErrDims}} {
		if _, ok, got := Step(along(never, sigma(e.a, univ), e.x)); got != e.want || ok != (e.want == api.OK) {
			t.Errorf("a pair of %s along %s: %t, %d, not %d", short(e.x), short(e.a), ok, got, e.want)
		}
	}
	for _, e := range []struct {
		a, b, x api.Term
		want    api.Errno
	}{{v(billion - 1), univ, univ, api.OK}, {v(billion), univ, univ, api.ErrTerm}, {univ, v(billion - 1), univ, api.OK}, {univ, v(billion), univ, api.ErrTerm}, {univ, univ, v(billion - 1), api.OK}, {univ, univ, v(billion), api.ErrTerm}, {loop(21), univ, univ, api.OK}, {loop(22), univ, univ, api.ErrDims}, {univ, loop(23), loop(23), api.OK}} {
		if _, ok, got := Step(along(never, pi(e.a, e.b), e.x)); got != e.want || ok != (e.want == api.OK) {
			t.Errorf("a function %s along %s to %s: %t, %d, not %d", short(e.x), short(e.a), short(e.b), ok, got, e.want)
		}
	}
}
