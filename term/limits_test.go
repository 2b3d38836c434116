package term

import (
	"math"
	"testing"

	"hypercube/api"
)

// wide tells a term of so many nodes (from 2 on), two deep: no kind has so many Kids.
func wide(nodes int) api.Term {
	t := api.Term{Kind: api.Pair, Kids: make([]api.Term, nodes-1)}
	for k := range t.Kids {
		t.Kids[k] = univ
	}
	return t
}

// P10.2: depths of 200 and 201.
func TestDeep(t *testing.T) {
	ways := map[string]func(api.Term) api.Term{
		"Fst": fst, "Lam": lam, "the last of five": func(x api.Term) api.Term { return node(api.SuspEl, univ, univ, univ, univ, x) },
		"the first of two": func(x api.Term) api.Term { return node(api.App, x, univ) },
		"a branch":         func(x api.Term) api.Term { return grown(node(api.Unglue, univ), nil, x) },
		"the second branch": func(x api.Term) api.Term {
			return grown(grown(node(api.Glue, univ), row{{}}, univ, univ), nil, univ, x)
		},
	}
	for name, in := range ways {
		for _, leaf := range []api.Term{univ, variable(0), {Kind: api.Const, Name: "c"}} {
			judged(t, name+", 200 deep", times(199, leaf, in), 1, 0, api.OK, api.OK)
			for _, more := range []int{200, 201, 1000, 65535} {
				judged(t, name+", deeper", times(more, leaf, in), 1, 0, api.ErrDeep, api.ErrDeep)
			}
		}
	}
	if x := times(199, univ, fst); Depth(x) != 200 {
		t.Errorf("Depth = %d", Depth(x))
	}
}

// P10.2: 20000 nodes and 20001.
func TestGreat(t *testing.T) {
	for name, make := range map[string]func(int) api.Term{"branches": bushy, "Pairs": balanced} {
		if n := Size(make(20000)); n != 20000 {
			t.Fatalf("%s: %d nodes", name, n)
		}
		judged(t, name, make(19999), 0, 0, api.OK, api.OK)
		judged(t, name, make(20000), 0, 0, api.OK, api.OK)
		for _, more := range []int{20001, 20002, 40000, 300000} {
			judged(t, name, make(more), 0, 0, api.ErrSize, api.ErrSize)
		}
	}
}

// P10.2: which of several things that are wrong is told.
func TestOrderOfRefusals(t *testing.T) {
	deep, great, wrong := times(200, univ, fst), balanced(20001), api.Term{}
	for _, x := range []api.Term{univ, wrong, great, deep, node(api.Pair, deep, great), node(0, deep, great, wrong)} {
		for _, at := range [][2]int{{-1, 0}, {0, -1}, {0, 25}, {-1, 25}, {math.MinInt, math.MaxInt}} {
			if got := Right(x, at[0], at[1]); got != api.ErrArg {
				t.Errorf("Right in %v = %d, not 2", at, got)
			}
		}
	}
	for name, x := range map[string]api.Term{
		"great, then deep": node(api.Pair, great, deep), "deep, then great": node(api.Pair, deep, great), "wrong, then deep": node(api.Pair, wrong, deep),
		"deep in what is wrong": node(0, deep), "deep in a variable": node(api.Var, deep), "a deep kid too many": node(api.Fst, univ, deep),
		"wrong all through": times(200, wrong, func(x api.Term) api.Term { return node(77, x) }), "deep in a system that none may have": grown(univ, row{pos(1 << 31)}, univ, deep),
		"deep behind many dimensions": times(200, univ, plam), "a variable too great, deep": times(200, variable(9), fst), "all": node(-1, wrong, great, deep),
		"great and deep at its end": node(api.Pair, bushy(30000), deep), "at 201 there is something wrong": times(200, wrong, fst),
	} {
		judged(t, name, x, 0, 0, api.ErrDeep, api.ErrDeep)
	}
	for name, x := range map[string]api.Term{
		"wrong, then great": node(api.Pair, wrong, great), "great, then wrong": node(api.Pair, great, wrong), "great in what is wrong": node(0, great), "too many kids": wide(20001),
		"in a system that none may have": grown(univ, nil, great), "200 deep, and great": node(api.Pair, times(198, univ, fst), bushy(19802)), "all wrong": {Kind: 99, Kids: make([]api.Term, 20000)},
	} {
		judged(t, name, x, 0, 0, api.ErrSize, api.ErrSize)
	}
	judged(t, "too many kids, not great", wide(20000), 0, 0, api.ErrTerm, api.ErrTerm)
	judged(t, "all wrong, not great", api.Term{Kind: 99, Kids: make([]api.Term, 19999)}, 0, 0, api.ErrTerm, api.ErrTerm)
	judged(t, "wrong, 200 deep", times(199, wrong, fst), 0, 0, api.ErrTerm, api.ErrTerm)
	judged(t, "just not great", node(api.Pair, times(198, univ, fst), bushy(19800)), 0, 0, api.OK, api.OK)
}

// A term that has itself has no end: it is too deep, and that is told.
func TestATermThatHasItself(t *testing.T) {
	ring := make([]api.Term, 1)
	ring[0] = api.Term{Kind: api.Fst, Kids: ring}
	judged(t, "a ring", ring[0], 0, 0, api.ErrDeep, api.ErrDeep)
	fork := make([]api.Term, 2)
	fork[0], fork[1] = api.Term{Kind: api.Pair, Kids: fork}, api.Term{Kind: api.Pair, Kids: fork}
	judged(t, "a ring that forks", fork[0], 0, 0, api.ErrDeep, api.ErrDeep)
}

// A great term with many branches, each with a great face, is told about in time.
func TestManyGreatFaces(t *testing.T) {
	x := bushy(20000)
	for k := range x.Sys {
		x.Sys[k].Face = sampleFace
	}
	judged(t, "many great faces", x, 0, 24, api.OK, api.OK)
}
