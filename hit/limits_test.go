package hit

import (
	"slices"
	"testing"

	"hypercube/api"
	"hypercube/sample"
	"hypercube/term"
)

// limit is a term that may be, and the nodes and the depth of what it becomes: as they would be, if that is refused.
type limit struct {
	from        api.Term
	size, depth int
}

// told tells what is refused of such an answer.
func (l limit) told() api.Errno {
	switch {
	case l.depth > 200:
		return api.ErrDeep
	case l.size > 20000:
		return api.ErrSize
	}
	return api.OK
}

// limited holds answers against the limits; a size or a depth of 0 is not asked.
func limited(t *testing.T, name string, l []limit) {
	t.Helper()
	for n, x := range l {
		got, ok, e := calls()[name](x.from)
		want := x.told()
		if term.Formed(x.from) != api.OK || e != want || ok != (e == api.OK) {
			t.Errorf("the limit %d: %s(%s) = %s, %t, %d, not %d", n, name, short(x.from), short(got), ok, e, want)
		}
		if e == api.OK && (x.size > 0 && term.Size(got) != x.size || x.depth > 0 && term.Depth(got) != x.depth) || e != api.OK && got.Kind != 0 {
			t.Errorf("the limit %d: %d nodes, %d deep, not %d and %d", n, term.Size(got), term.Depth(got), x.size, x.depth)
		}
	}
}

// sized tells an eliminator of a composition, all parts of which have so many nodes, with some branches of one size.
func sized(p api.Term, b, l, t, a, branches, u int) api.Term {
	great := sample.Balanced
	return of(api.CircleEl, p, great(b), great(l), comp(great(t), great(a), slices.Repeat(system{at(row{pos(1)}, great(u))}, branches)...))
}

// steady tells an eliminator, what is made by which hangs on nothing: it stands in its answer three times, and twice more for each branch.
func steady(p, b, l, a, branches, u int) limit {
	return limit{sized(sample.Balanced(p), b, l, 1, a, branches, u), 3 + 3*p + b + l + a + branches*(2+2*p+b+l+u), 0}
}

// variable tells one of the variable itself: its answer has the filler twice, which has a branch less at its end, and once more for each branch.
func variable(b, l, t, a, branches, u int) limit {
	filler := 1 + t + 2*a + branches*u
	return limit{sized(v(0), b, l, t, a, branches, u), 4 + 2*filler - a + b + l + a + branches*(3+filler+b+l+u), 0}
}

// goes tells a composition that is carried along a line of suspensions of a term of so many nodes.
func goes(x, a, branches, u int) limit {
	great := sample.Balanced
	return limit{along(never, susp(great(x)), comp(univ, great(a), slices.Repeat(system{at(row{pos(1)}, great(u))}, branches)...)), 4 + 2*x + a + branches*(2+x+u), 0}
}

// The greatest answers that may be, and those with a node more, or some.
func TestGreat(t *testing.T) {
	limited(t, "Elim", []limit{
		steady(1, 1, 1, 1, 0, 1), steady(6664, 1, 1, 1, 0, 1), steady(6664, 1, 1, 3, 0, 1), steady(6664, 1, 1, 4, 0, 1), steady(6665, 1, 1, 1, 0, 1), steady(1, 19992, 1, 1, 0, 1), steady(1, 19993, 1, 1, 0, 1), steady(2, 5000, 5000, 9991, 0, 1), steady(2, 5000, 5000, 9992, 0, 1),
		steady(2000, 1500, 1500, 2500, 1, 1495), steady(2000, 1500, 1500, 2500, 1, 1496), steady(1000, 1000, 1000, 993, 2, 3000), steady(1000, 1000, 1000, 994, 2, 3000), steady(1000, 500, 500, 991, 3, 2000), steady(1000, 500, 500, 992, 3, 2000), steady(3000, 1, 1, 7, 1, 4984), steady(3000, 1, 1, 7, 1, 4985), steady(1, 4000, 5000, 1989, 1, 1), steady(1, 4000, 5000, 1990, 1, 1),
		variable(1, 1, 1, 1, 0, 1), variable(1, 1, 1, 4997, 0, 1), variable(1, 3, 1, 4997, 0, 1), variable(4, 1, 1, 4997, 0, 1), variable(1, 1, 9994, 1, 0, 1), variable(1, 2, 9994, 1, 0, 1), variable(1, 1, 9995, 1, 0, 1), variable(1, 2, 2, 1, 1, 4993), variable(1, 1, 3, 1, 1, 4993), variable(1, 2, 2, 1, 1, 4994), variable(1, 1, 1, 1, 3, 1000), variable(2, 3, 1, 14, 3, 1100), variable(2, 3, 2, 14, 3, 1100), variable(1, 1, 1, 1, 60, 5),
	})
	// The filler has what is composed twice, and may not be too great even where it goes.
	limited(t, "Elim", []limit{{sized(univ, 1, 1, 1, 9999, 0, 1), 10007, 0}, {sized(univ, 1, 1, 2, 9999, 0, 1), 20001, 0}, {sized(univ, 1, 1, 1, 10000, 0, 1), 20002, 0}})
	merids := func(x, a int) limit {
		great := sample.Balanced
		return limit{along(never, susp(great(x)), merid(great(a), never)), 2 + x + a, 0}
	}
	limited(t, "Carry", []limit{
		goes(1, 1, 0, 1), goes(9997, 2, 0, 1), goes(9997, 3, 0, 1), goes(9998, 1, 0, 1), goes(1, 19994, 0, 1), goes(1, 19995, 0, 1), goes(5000, 4000, 1, 994), goes(5000, 4000, 1, 993), goes(5000, 4000, 1, 995), goes(1, 1, 4998, 1), goes(1, 2, 4998, 1), goes(1, 3, 4998, 1), goes(1, 1, 4999, 1), goes(18, 1, 900, 1), goes(3000, 1990, 3, 1000), goes(3000, 1991, 3, 1000),
		merids(1, 1), merids(1, 19996), merids(19996, 1), merids(10000, 9997), {along(never, susp(sample.Balanced(19997)), north), 1, 1}, {along(never, susp(sample.Balanced(19997)), south), 1, 1},
	})
}

// Many branches beside great parts: the whole would be far too great; a branch that is deep by itself does not make it otherwise, wherever it is.
func TestManyBranches(t *testing.T) {
	for _, nodes := range []int{2, 20, 400, 9000, 19900} {
		for _, branches := range []int{1, api.MaxSize / nodes, api.MaxSize/nodes + 1, api.MaxSize/nodes + 2, 19000, 10000} {
			if nodes+branches > 19990 {
				continue
			}
			limited(t, "Elim", []limit{steady(nodes-nodes/2, nodes/2, 1, 1, branches, 1)})
			x := goes(nodes, 1, branches, 1)
			limited(t, "Carry", []limit{x})
			for _, n := range []int{0, branches - 1} {
				deep := sample.Plain(x.from)
				deep.Kids[1].Sys[n] = at(row{pos(1)}, tall(197))
				if nodes+branches < 19700 {
					limited(t, "Carry", []limit{{deep, x.size + 196, max(199, term.Depth(x.from)+1)}})
				}
			}
		}
	}
	many := comp(univ, univ, slices.Repeat(system{at(always, univ)}, 19000)...)
	limited(t, "Elim", []limit{{of(api.CircleEl, tall(199), univ, univ, many), 99999, 201}, {of(api.SuspEl, univ, univ, univ, tall(199), many), 99999, 201}})
	limited(t, "Carry", []limit{{along(never, susp(tall(198)), many), 99999, 201}})
}

// The deepest answers that may be, and those that are one deeper: how much deeper they are than a part, and how deep the part stands in what is handed in.
func TestDeep(t *testing.T) {
	below := func(kind int, x args) api.Term {
		x.p = times(50, v(0), fst)
		if kind == api.SuspEl {
			return x.susp()
		}
		return x.circle()
	}
	for _, x := range []struct {
		call       string
		place      place
		whole      func(args) api.Term
		in, deeper int
	}{
		{"Elim", inP, args.circle, 1, 3}, {"Elim", inB, args.circle, 1, 3}, {"Elim", inL, args.circle, 1, 3}, {"Elim", inA, args.circle, 2, 3}, {"Elim", inU, args.circle, 2, 3}, {"Elim", inV, args.circle, 2, 3}, {"Elim", inT, args.circle, 2, 0},
		{"Elim", inP, args.susp, 1, 3}, {"Elim", inB, args.susp, 1, 3}, {"Elim", inM, args.susp, 1, 3}, {"Elim", inL, args.susp, 1, 3}, {"Elim", inA, args.susp, 2, 3}, {"Elim", inU, args.susp, 2, 3}, {"Elim", inV, args.susp, 2, 3}, {"Elim", inT, args.susp, 2, 0},
		{"Carry", inP, args.carried, 2, 3}, {"Carry", inA, args.carried, 2, 2}, {"Carry", inU, args.carried, 2, 2}, {"Carry", inV, args.carried, 2, 2}, {"Carry", inT, args.carried, 2, 0}, {"Carry", inP, args.merid, 2, 2}, {"Carry", inA, args.merid, 2, 2},
	} {
		for depth := 190; depth+x.in <= 200; depth++ {
			from := sound()
			from.p = univ
			*x.place(&from) = tall(depth)
			want := depth + x.deeper
			if x.deeper == 0 {
				// It goes.
				want = 0
			}
			limited(t, x.call, []limit{{x.whole(from), 0, want}})
		}
	}
	// Behind 50 nodes, and one of its own, the filler's parts stand in what is made; there the variable itself stood, as in the eliminator.
	for _, kind := range []int{api.CircleEl, api.SuspEl} {
		for depth := 140; depth <= 155; depth++ {
			for _, p := range []place{inT, inA, inU, inV} {
				from := sound()
				*p(&from) = tall(depth)
				limited(t, "Elim", []limit{{below(kind, from), 0, depth + 53}})
			}
		}
	}
}
