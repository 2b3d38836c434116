package hcomp

import (
	"slices"
	"testing"

	"hypercube/api"
	"hypercube/build"
	"hypercube/sample"
	"hypercube/term"
)

// sized is how many nodes the parts of a term have: the type's, the ends of its paths, what is composed, and each branch; how many branches there are; and how often the second type has its variable.
type sized struct{ a, b, l, r, x, u, walls, often int }

// of tells a composition of such parts in a type.
func (s sized) of(in api.Term) api.Term {
	return comp(in, sample.Balanced(s.x), slices.Repeat(system{at(own, sample.Balanced(s.u))}, s.walls)...)
}

// hanging tells a type that has its variable so often; it has to have room for that.
func (s sized) hanging() api.Term {
	b := having(api.MkGlue, sample.Balanced(s.b-1-s.often))
	for range s.often {
		b.Sys = append(b.Sys, at(always, v(0)))
	}
	return b
}

func (s sized) functions() api.Term { return s.of(pi(sample.Balanced(s.a), s.hanging())) }
func (s sized) pairs() api.Term     { return s.of(sigma(sample.Balanced(s.a), s.hanging())) }
func (s sized) paths() api.Term {
	return s.of(paths(sample.Balanced(s.a), sample.Balanced(s.l), sample.Balanced(s.r)))
}
func (s sized) types() api.Term { return s.of(univ) }

// The sizes of what these become.
func (s sized) functionsSize() int { return 4 + s.b + s.x + s.walls*(s.u+2) }
func (s sized) pairsSize() int {
	line := s.b + s.often*(2+s.a+2*s.x+s.walls*(1+s.u))
	// At the end the branch where a filler begins is gone.
	end := line - s.often*(1+s.x)
	return 1 + (2 + s.a + s.x + s.walls*(1+s.u)) + (3 + end + line + s.x + s.walls*(2+line+s.u))
}
func (s sized) pathsSize() int {
	return 3 + s.a + s.x + 2*(s.l+s.r) + s.walls*(1+s.u+s.l+s.r)
}
func (s sized) typesSize() int {
	return 1 + s.x + s.walls*(1+s.u+s.equivSize()+term.Size(build.Id()))
}
func (s sized) equivSize() int { return 26 + 4*s.u + 5*s.x }

// limited holds what a term becomes against how many nodes that has to have, which may be too many.
func limited(t *testing.T, x api.Term, size int) {
	t.Helper()
	got, ok, e := Step(x)
	want := api.OK
	if size > api.MaxSize {
		want = api.ErrSize
	}
	if term.Formed(x) != api.OK || e != want || ok != (e == api.OK) || ok && term.Size(got) != size || !ok && got.Kind != 0 {
		t.Errorf("Step(%s): %t, %d, %d nodes, not %d, %d", short(x), ok, e, term.Size(got), want, size)
	}
}

// exactly tells parts, one of which is great, and the others as small as they were or a little greater: so that they become so many nodes.
func exactly(t *testing.T, s sized, main func(*sized) *int, size func(sized) int, nodes int) sized {
	t.Helper()
	for n := range 30000 {
		x := s
		x.a, x.b, x.x, x.u = s.a+n%20, s.b+n/20%3, s.x+n/60%40, s.u+n/2400
		from := size(x)
		*main(&x)++
		if each := size(x) - from; each > 0 && nodes > from && (nodes-from)%each == 0 {
			*main(&x) += (nodes-from)/each - 1
			return x
		}
	}
	t.Errorf("no parts become %d nodes: %v", nodes, s)
	return s
}

// Answers that are as great as may be, and such with a node more.
func TestGreat(t *testing.T) {
	ofA, ofB := func(s *sized) *int { return &s.a }, func(s *sized) *int { return &s.b }
	ofL, ofR := func(s *sized) *int { return &s.l }, func(s *sized) *int { return &s.r }
	ofX, ofU := func(s *sized) *int { return &s.x }, func(s *sized) *int { return &s.u }
	ofWalls := func(s *sized) *int { return &s.walls }
	type made struct {
		whole func(sized) api.Term
		size  func(sized) int
	}
	functions, pairs := made{sized.functions, sized.functionsSize}, made{sized.pairs, sized.pairsSize}
	lines, types := made{sized.paths, sized.pathsSize}, made{sized.types, sized.typesSize}
	for _, x := range []struct {
		made
		walls, often int
		main         func(*sized) *int
	}{
		{functions, 0, 0, ofB}, {functions, 0, 3, ofX}, {functions, 1, 1, ofB}, {functions, 1, 0, ofX}, {functions, 1, 0, ofU}, {functions, 3, 0, ofU}, {functions, 0, 0, ofWalls},
		{pairs, 0, 0, ofA}, {pairs, 0, 0, ofB}, {pairs, 0, 0, ofX}, {pairs, 0, 1, ofA}, {pairs, 0, 2, ofX}, {pairs, 1, 0, ofU}, {pairs, 1, 1, ofA}, {pairs, 2, 1, ofX}, {pairs, 3, 2, ofU}, {pairs, 3, 2, ofB}, {pairs, 0, 0, ofWalls},
		{lines, 0, 0, ofA}, {lines, 0, 0, ofX}, {lines, 0, 0, ofL}, {lines, 0, 0, ofR}, {lines, 1, 0, ofL}, {lines, 2, 0, ofR}, {lines, 3, 0, ofU}, {lines, 3, 0, ofX}, {lines, 0, 0, ofWalls},
		{types, 1, 0, ofX}, {types, 1, 0, ofU}, {types, 2, 0, ofX}, {types, 5, 0, ofU}, {types, 0, 0, ofWalls},
	} {
		for nodes := api.MaxSize; nodes <= api.MaxSize+1; nodes++ {
			s := exactly(t, sized{1, x.often + 2, 1, 1, 1, 1, x.walls, x.often}, x.main, x.size, nodes)
			limited(t, x.whole(s), nodes)
		}
	}
}

// What stands in many branches is far too great, and that is told soon, wherever it comes from.
func TestManyBranches(t *testing.T) {
	for _, x := range []api.Term{
		sized{b: 9000, a: 1, x: 1, u: 1, walls: 9900}.functions(), sized{a: 1000, b: 9000, x: 1000, u: 1, walls: 4000, often: 2}.pairs(), sized{a: 1, b: 9000, x: 1, u: 1, walls: 4000, often: 1}.pairs(),
		sized{a: 1, l: 5000, r: 5000, x: 1, u: 1, walls: 9900}.paths(), sized{a: 1, l: 9900, r: 1, x: 1, u: 1, walls: 9900}.paths(), sized{x: 3900, u: 1, walls: 16000}.types(), sized{x: 1900, u: 2000, walls: 9}.types(), sized{x: 1, u: 1, walls: 19900}.types(), sized{x: 2000, u: 20, walls: 850}.types(),
	} {
		limited(t, x, api.MaxSize+1)
	}
	growing := comp(univ, sample.Balanced(1500))
	for n := 1; n < 185; n++ {
		growing.Sys = append(growing.Sys, at(never, sample.Balanced(n)))
	}
	limited(t, growing, api.MaxSize+1)
}

// Where the answer is too great for long, a part that is refused is still told ahead of that: as the whole would be made.
func TestRefusedBehindManyBranches(t *testing.T) {
	great := sample.Balanced(3000)
	wall := func(u api.Term) system { return system{at(own, u)} }
	many := slices.Repeat(wall(univ), 8)
	for n, x := range []struct {
		sys  system
		want api.Errno
	}{
		{many, api.ErrSize}, {wall(v(billion - 3)), api.ErrTerm}, {wall(loop(23)), api.ErrDims}, {wall(tall(195)), api.ErrDeep}, {wall(tall(193)), api.ErrDeep}, {wall(sample.Balanced(1300)), api.ErrSize},
		// Of two the first: what is greater than all ahead may be too great itself.
		{append(wall(sample.Balanced(1300)), wall(v(billion))...), api.ErrSize}, {append(wall(sample.Balanced(1200)), wall(v(billion))...), api.ErrTerm}, {append(wall(v(billion)), wall(sample.Balanced(1300))...), api.ErrTerm},
		{append(wall(pair(sample.Balanced(1300), v(billion))), wall(tall(195))...), api.ErrTerm}, {append(wall(sample.Balanced(1300)), wall(tall(195))...), api.ErrSize}, {append(wall(tall(195)), wall(v(billion))...), api.ErrDeep}, {append(wall(tall(193)), wall(v(billion))...), api.ErrTerm},
		{slices.Concat(wall(sample.Balanced(1200)), wall(sample.Balanced(1199)), wall(loop(23))), api.ErrDims}, {slices.Concat(wall(sample.Balanced(1200)), wall(sample.Balanced(1243)), wall(loop(23))), api.ErrDims}, {slices.Concat(wall(sample.Balanced(1243)), wall(sample.Balanced(1244)), wall(loop(23))), api.ErrSize},
	} {
		y := comp(univ, great, append(slices.Clone(many), x.sys...)...)
		want, _, part, e := model(y)
		if e != x.want || want.Kind != 0 {
			t.Fatalf("%d: the model tells %s, %d, not %d", n, part, e, x.want)
		}
		becomes(t, y, api.Term{}, x.want)
	}
	for _, x := range []struct {
		sys  system
		want api.Errno
	}{
		{many, api.ErrSize}, {wall(loop(23)), api.ErrDims}, {system{at(row{pos(sample.Last)}, v(billion+1))}, api.ErrDims}, {wall(v(billion + 1)), api.ErrTerm}, {wall(tall(198)), api.ErrDeep}, {append(wall(tall(198)), wall(loop(23))...), api.ErrDims}, {append(wall(v(billion+1)), wall(loop(23))...), api.ErrTerm},
	} {
		becomes(t, comp(paths(univ, great, great), univ, append(slices.Clone(many), x.sys...)...), api.Term{}, x.want)
		// An end that is deep is so in the first of the branches, too.
		deep := pair(great, tall(197))
		want := x.want
		if want == api.ErrSize {
			want = api.ErrDeep
		}
		becomes(t, comp(paths(univ, deep, univ), univ, append(slices.Clone(many), x.sys...)...), api.Term{}, want)
		becomes(t, comp(paths(univ, univ, deep), univ, append(slices.Clone(many), x.sys...)...), api.Term{}, want)
	}
	deep := pair(great, tall(190))
	becomes(t, comp(univ, deep, many...), api.Term{}, api.ErrSize)
	deep = pair(great, tall(191))
	becomes(t, comp(univ, deep, many...), api.Term{}, api.ErrDeep)
}

// The deepest answers that may be, and those that are one deeper: how much deeper they are than a part, and how deep the part stands in what is handed in.
func TestDeep(t *testing.T) {
	one := args{univ, univ, univ, univ, univ, univ, univ, own, row{neg(1)}, 0}
	hanging := one
	hanging.b = v(0)
	for n, x := range []struct {
		from       args
		whole      func(args) api.Term
		place      place
		in, deeper int
	}{
		{one, args.functions, inB, 2, 2}, {one, args.functions, inX, 1, 3}, {one, args.functions, inU, 1, 3}, {one, args.functions, inW, 1, 3}, {one, args.bareFunctions, inB, 2, 2}, {one, args.bareFunctions, inX, 1, 3},
		{one, args.pairs, inA, 2, 2}, {one, args.pairs, inB, 2, 3}, {one, args.pairs, inX, 1, 4}, {one, args.pairs, inU, 1, 4}, {one, args.pairs, inW, 1, 4}, {hanging, args.pairs, inA, 2, 4}, {hanging, args.pairs, inX, 1, 5}, {hanging, args.pairs, inU, 1, 5}, {one, args.barePairs, inB, 2, 3}, {hanging, args.barePairs, inX, 1, 5},
		{one, args.paths, inA, 2, 2}, {one, args.paths, inL, 2, 3}, {one, args.paths, inR, 2, 3}, {one, args.paths, inX, 1, 3}, {one, args.paths, inU, 1, 3}, {one, args.barePaths, inL, 2, 3}, {one, args.barePaths, inR, 2, 3},
		{one, args.types, inX, 1, 9}, {one, args.types, inU, 1, 8}, {one, args.types, inW, 1, 8}, {one, args.bareTypes, inX, 1, 1},
	} {
		for depth := 184; depth+x.in <= api.MaxDepth; depth++ {
			from := x.from
			*x.place(&from) = tall(depth)
			got, ok, e := Step(x.whole(from))
			want := api.OK
			if depth+x.deeper > api.MaxDepth {
				want = api.ErrDeep
			}
			if e != want || ok != (e == api.OK) || ok && term.Depth(got) != depth+x.deeper {
				t.Errorf("%d, %d deep: %t, %d, %d deep, not %d", n, depth, ok, e, term.Depth(got), want)
			}
		}
	}
}

// As great as may be handed in.
func TestGreatTerms(t *testing.T) {
	for _, nodes := range []int{api.MaxSize - 2, api.MaxSize - 1} {
		for _, in := range []api.Term{univ, circle} {
			want, e := api.Term{}, api.OK
			if in.Kind == api.Univ {
				want = having(api.Glue, sample.Bushy(nodes))
			}
			if nodes+2 > api.MaxSize {
				e = api.ErrSize
			}
			becomes(t, comp(in, sample.Bushy(nodes)), want, e)
		}
	}
	deep := times(api.MaxDepth-2, univ, fst)
	becomes(t, comp(univ, deep), having(api.Glue, deep), api.OK)
	nothing(t, comp(circle, deep))
	becomes(t, comp(univ, fst(deep)), api.Term{}, api.ErrDeep)
	becomes(t, comp(circle, base, at(never, fst(deep))), api.Term{}, api.ErrDeep)
}

// What fills a pair's first parts is made even where the second type does not have its variable: so it may be refused.
func TestFillersAreMade(t *testing.T) {
	for _, e := range []struct {
		a, x, u api.Term
		want    api.Errno
	}{
		{v(billion), univ, univ, api.OK}, {v(billion + 1), univ, univ, api.ErrTerm}, {univ, v(billion), univ, api.OK}, {univ, v(billion + 1), univ, api.ErrTerm}, {univ, univ, v(billion), api.OK}, {univ, univ, v(billion + 1), api.ErrTerm},
		{loop(22), univ, univ, api.OK}, {loop(23), univ, univ, api.ErrDims}, {univ, loop(21), univ, api.OK}, {univ, loop(22), univ, api.ErrDims}, {univ, univ, loop(21), api.OK}, {univ, univ, loop(22), api.ErrDims},
		{univ, tall(198), univ, api.ErrDeep}, {univ, univ, tall(199), api.ErrDeep}, {univ, tall(199), loop(22), api.ErrDims},
	} {
		if _, ok, got := Step(comp(sigma(e.a, univ), e.x, at(own, e.u))); got != e.want || ok != (e.want == api.OK) {
			t.Errorf("a pair %s in %s, with %s: %t, %d, not %d", short(e.x), short(e.a), short(e.u), ok, got, e.want)
		}
	}
}
