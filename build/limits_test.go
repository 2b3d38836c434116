package build

import (
	"slices"
	"testing"

	"hypercube/api"
	"hypercube/sample"
	"hypercube/term"
)

// sized tells arguments whose terms have so many nodes, with so many branches of one size.
func sized(t, a, f, y, branches, u int) args {
	return args{sample.Balanced(t), sample.Balanced(a), sample.Balanced(f), sample.Balanced(y), never, slices.Repeat(system{at(always, sample.Balanced(u))}, branches)}
}

// The greatest answers that may be, and those with a node more.
func TestGreat(t *testing.T) {
	for _, x := range []struct {
		name string
		args args
		size int
	}{
		// 2 + 2t + a, and 1 + t + u more for each branch.
		{"Comp", sized(1, 19996, 1, 1, 0, 1), 20000}, {"Comp", sized(1, 19997, 1, 1, 0, 1), 20001}, {"Comp", sized(9999, 1, 1, 1, 0, 1), 20001}, {"Comp", sized(9998, 2, 1, 1, 0, 1), 20000}, {"Comp", sized(5000, 4000, 1, 1, 1, 997), 20000}, {"Comp", sized(5000, 4000, 1, 1, 1, 998), 20001}, {"Comp", sized(4000, 997, 1, 1, 2, 1499), 19999}, {"Comp", sized(4000, 998, 1, 1, 2, 1499), 20000}, {"Comp", sized(4000, 999, 1, 1, 2, 1499), 20001},
		{"Comp", sized(1, 1, 1, 1, 6665, 1), 20000}, {"Comp", sized(1, 2, 1, 1, 6665, 1), 20001}, {"Comp", sized(1, 1, 1, 1, 6666, 1), 20003}, {"Comp", sized(18, 9, 1, 1, 997, 1), 19987}, {"Comp", sized(18, 22, 1, 1, 997, 1), 20000}, {"Comp", sized(18, 23, 1, 1, 997, 1), 20001}, {"Comp", sized(17, 13, 1, 1, 1050, 1), 19999}, {"Comp", sized(17, 14, 1, 1, 1050, 1), 20000}, {"Comp", sized(17, 15, 1, 1, 1050, 1), 20001},
		// 1 + t + 2a, and u for each branch.
		{"Fill", sized(19997, 1, 1, 1, 0, 1), 20000}, {"Fill", sized(19998, 1, 1, 1, 0, 1), 20001}, {"Fill", sized(1, 9999, 1, 1, 0, 1), 20000}, {"Fill", sized(2, 9999, 1, 1, 0, 1), 20001}, {"Fill", sized(3, 9998, 1, 1, 0, 1), 20000}, {"Fill", sized(1, 10000, 1, 1, 0, 1), 20002}, {"Fill", sized(1, 1, 1, 1, 1, 19996), 20000}, {"Fill", sized(1, 1, 1, 1, 1, 19997), 20001}, {"Fill", sized(1, 1, 1, 1, 19996, 1), 20000}, {"Fill", sized(1, 1, 1, 1, 19997, 1), 20001}, {"Fill", sized(9, 5, 1, 1, 2, 9990), 20000}, {"Fill", sized(10, 5, 1, 1, 2, 9990), 20001},
		{"Run", sized(1, 19998, 1, 1, 0, 1), 20000}, {"Run", sized(1, 19999, 1, 1, 0, 1), 20001}, {"Run", sized(19998, 1, 1, 1, 0, 1), 20000}, {"Run", sized(19998, 2, 1, 1, 0, 1), 20001}, {"Run", sized(20000, 20000, 1, 1, 0, 1), 40001}, {"Back", sized(9999, 10000, 1, 1, 0, 1), 20000}, {"Back", sized(10000, 10000, 1, 1, 0, 1), 20001},
		// 4 and all four; 5 and 3t; 26 and 4t and 5a.
		{"Fiber", sized(1, 1, 1, 19993, 0, 1), 20000}, {"Fiber", sized(1, 1, 2, 19993, 0, 1), 20001}, {"Fiber", sized(5000, 5000, 5000, 4996, 0, 1), 20000}, {"Fiber", sized(5001, 5000, 5000, 4996, 0, 1), 20001}, {"Fiber", sized(5000, 5001, 5000, 4996, 0, 1), 20001}, {"Fiber", sized(20000, 20000, 20000, 20000, 0, 1), 80004},
		{"Contr", sized(6665, 1, 1, 1, 0, 1), 20000}, {"Contr", sized(6666, 1, 1, 1, 0, 1), 20003}, {"Contr", sized(20000, 1, 1, 1, 0, 1), 60005}, {"Equiv", sized(4991, 2, 1, 1, 0, 1), 20000}, {"Equiv", sized(4990, 3, 1, 1, 0, 1), 20001}, {"Equiv", sized(1, 3994, 1, 1, 0, 1), 20000}, {"Equiv", sized(2, 3994, 1, 1, 0, 1), 20004}, {"Equiv", sized(2500, 2500, 1, 1, 0, 1), 22526}, {"Equiv", sized(20000, 20000, 1, 1, 0, 1), 180026},
	} {
		got, e := calls()[x.name](x.args)
		switch {
		case x.size > 20000:
			answer(t, x.name, got, e, api.Term{}, api.ErrSize)
		case e != api.OK || term.Size(got) != x.size || sample.Nodes(got) != x.size:
			t.Errorf("%s: %d nodes, %d, not %d", x.name, term.Size(got), e, x.size)
		}
	}
}

// tall tells arguments of which one term is so deep.
func tall(p place, depth int) args {
	x := args{t: univ, a: univ, f: univ, y: univ, sys: system{at(never, univ), at(always, univ)}}
	*p(&x) = times(depth-1, univ, fst)
	return x
}

// The deepest terms that may be, and those that are one deeper: in each place of each call.
func TestDeep(t *testing.T) {
	for _, x := range []struct {
		name string
		at   place
		most int
	}{
		{"Comp", inT, 198}, {"Comp", inA, 198}, {"Comp", inU, 198}, {"Comp", inV, 198}, {"Fill", inT, 199}, {"Fill", inA, 199}, {"Fill", inU, 199}, {"Fill", inV, 199}, {"Run", inT, 199}, {"Run", inA, 199}, {"Back", inT, 199}, {"Back", inA, 199},
		{"Fiber", inT, 199}, {"Fiber", inA, 198}, {"Fiber", inY, 198}, {"Fiber", inF, 197}, {"Contr", inT, 197}, {"Equiv", inT, 194}, {"Equiv", inA, 193},
	} {
		for depth := x.most - 2; depth <= 202; depth++ {
			got, e := calls()[x.name](tall(x.at, depth))
			switch {
			case depth > x.most:
				answer(t, x.name, got, e, api.Term{}, api.ErrDeep)
			case e != api.OK || term.Depth(got) != 200-x.most+depth:
				t.Errorf("%s: %d deep, %d", x.name, term.Depth(got), e)
			}
		}
	}
	// Without a branch the line stands in a Transp all the same.
	for depth := 197; depth <= 200; depth++ {
		line := times(depth-1, univ, fst)
		got, e := Comp(line, univ, nil)
		answer(t, "Comp", got, e, composed(line, carry(never, line, univ)), map[bool]api.Errno{true: api.ErrDeep}[depth > 198])
	}
}

// Both at once: how deep counts first, of what is handed in and of the answer; but of a Fiber and a Contr within, ahead of the whole, each for itself.
func TestDeepAndGreat(t *testing.T) {
	big := func(depth, nodes int) api.Term { return pair(times(depth-2, univ, fst), sample.Balanced(nodes)) }
	for _, x := range []struct {
		name string
		args args
		want api.Errno
	}{
		{"Comp", args{t: big(199, 15000), a: univ}, api.ErrDeep}, {"Comp", args{t: big(198, 15000), a: univ}, api.ErrSize}, {"Comp", args{t: big(50, 15000), a: big(199, 7)}, api.ErrDeep}, {"Fill", args{t: big(200, 15000), a: big(50, 15000)}, api.ErrDeep}, {"Fill", args{t: big(199, 15000), a: big(50, 15000)}, api.ErrSize},
		{"Run", args{t: big(199, 15000), a: big(200, 15000)}, api.ErrDeep}, {"Back", args{t: big(199, 15000), a: big(199, 15000)}, api.ErrSize}, {"Fiber", args{univ, univ, big(198, 15000), big(9, 15000), nil, nil}, api.ErrDeep}, {"Fiber", args{univ, univ, big(197, 15000), big(9, 15000), nil, nil}, api.ErrSize}, {"Contr", args{t: big(198, 15000)}, api.ErrDeep}, {"Contr", args{t: big(197, 15000)}, api.ErrSize},
		// In the Equiv's Fiber t may be 199 deep, in its Contr 196, and 194 in the whole; a less by one.
		{"Equiv", args{t: big(200, 15000), a: big(9, 5000)}, api.ErrDeep}, {"Equiv", args{t: big(199, 15000), a: big(9, 5000)}, api.ErrSize}, {"Equiv", args{t: big(197, 6000), a: univ}, api.ErrDeep}, {"Equiv", args{t: big(196, 7000), a: univ}, api.ErrSize}, {"Equiv", args{t: big(195, 5500), a: univ}, api.ErrDeep}, {"Equiv", args{t: big(194, 5500), a: univ}, api.ErrSize}, {"Equiv", args{t: univ, a: big(195, 7000)}, api.ErrSize}, {"Equiv", args{t: univ, a: big(194, 4500)}, api.ErrDeep},
	} {
		got, e := calls()[x.name](x.args)
		answer(t, x.name, got, e, api.Term{}, x.want)
	}
}

// How great and how deep a system may be counts with a term of it and twice Univ: ahead of all that is refused of the parts, which is ahead of the answer.
func TestGreatAndDeepSystems(t *testing.T) {
	for _, x := range []struct {
		sys  system
		want api.Errno
	}{
		{system{at(always, sample.Balanced(19997))}, api.ErrDims}, {system{at(always, sample.Balanced(19998))}, api.ErrSize}, {slices.Repeat(system{at(never, univ)}, 19997), api.ErrDims}, {slices.Repeat(system{at(never, univ)}, 19998), api.ErrSize}, {system{at(always, univ), at(never, sample.Balanced(19996))}, api.ErrDims}, {system{at(always, univ), at(never, sample.Balanced(19997))}, api.ErrSize},
		{system{at(always, times(198, univ, fst))}, api.ErrDims}, {system{at(always, times(199, univ, fst))}, api.ErrDeep}, {system{at(always, sample.Balanced(19998)), at(never, times(199, univ, fst))}, api.ErrDeep},
	} {
		got, e := Comp(loop(22), univ, x.sys)
		answer(t, "Comp", got, e, api.Term{}, x.want)
		got, e = Fill(univ, loop(23), x.sys)
		answer(t, "Fill", got, e, api.Term{}, x.want)
	}
}

// Many branches beside a great line: the whole would be far too great, and is refused in time; a branch that is too deep is told all the same, wherever it is.
func TestManyBranches(t *testing.T) {
	for _, nodes := range []int{1, 2, 19, 400, 19999, 20000} {
		line := sample.Balanced(nodes)
		for _, branches := range []int{api.MaxSize/nodes - 1, api.MaxSize / nodes, api.MaxSize/nodes + 1, api.MaxSize/nodes + 2, 19000} {
			if branches < 1 || branches > 19000 {
				continue
			}
			sys := slices.Repeat(system{at(row{pos(1)}, univ)}, branches)
			got, e := Comp(line, univ, sys)
			size := 3 + 2*nodes + branches*(2+nodes)
			switch {
			case size > 20000:
				answer(t, "Comp", got, e, api.Term{}, api.ErrSize)
			case e != api.OK || term.Size(got) != size:
				t.Errorf("Comp of %d and %d: %d, %d", nodes, branches, term.Size(got), e)
			}
			for _, n := range []int{0, branches / 2, branches - 1} {
				sys[n] = at(row{pos(1)}, times(198, univ, fst))
				got, e = Comp(line, univ, sys)
				answer(t, "Comp", got, e, api.Term{}, api.ErrDeep)
				sys[n] = sys[(n+1)%branches]
			}
		}
	}
	// Refusals of the parts come ahead of that: of all branches the first tells.
	sys := slices.Repeat(system{at(row{pos(1)}, univ)}, 19000)
	got, e := Comp(pair(sample.Balanced(19000), loop(22)), times(199, univ, fst), sys)
	answer(t, "Comp", got, e, api.Term{}, api.ErrDims)
	sys[18999] = at(row{pos(sample.Last)}, univ)
	got, e = Fill(sample.Balanced(15000), times(199, univ, fst), sys)
	answer(t, "Fill", got, e, api.Term{}, api.ErrDims)
}

// What goes when something is put into a line is not counted.
func TestWhatGoesIsNotCounted(t *testing.T) {
	line := of(api.MkGlue, univ)
	line.Sys = slices.Repeat(system{at(never, univ)}, 9000)
	got, e := Comp(line, univ, slices.Repeat(system{at(always, univ)}, 2000))
	if want := 1 + 2 + 1 + 9002 + 1 + 2000*(1+2+1); e != api.OK || term.Size(got) != want {
		t.Errorf("Comp: %d nodes, %d, not %d", term.Size(got), e, want)
	}
	got, e = Fill(univ, univ, system{at(always, line)})
	answer(t, "Fill", got, e, composed(univ, univ, at(always, of(api.MkGlue, univ)), at(row{neg(1)}, univ)), api.OK)
	got, e = Run(line, never, line)
	answer(t, "Run", got, e, carry(row{neg(1)}, of(api.MkGlue, univ), line), api.OK)
	for _, depth := range []int{197, 198, 199} {
		line = grown(of(api.MkGlue, univ), never, times(depth-1, univ, fst))
		got, e = Back(line, never, univ)
		answer(t, "Back", got, e, carry(row{pos(1)}, of(api.MkGlue, univ), univ), api.OK)
		got, e = Comp(line, univ, nil)
		answer(t, "Comp", got, e, composed(of(api.MkGlue, univ), carry(never, line, univ)), map[bool]api.Errno{true: api.ErrDeep}[depth > 197])
	}
}
