package term

import (
	"math"
	"reflect"
	"testing"

	"hypercube/api"
	"hypercube/sample"
)

// sampleFace is a face of as many clauses as there may be.
var sampleFace = sample.Pairs(64)

// P10.3.

func TestSizeAndDepth(t *testing.T) {
	for _, x := range []struct {
		t           api.Term
		size, depth int
	}{
		{univ, 1, 1}, {api.Term{}, 1, 1}, {loop(3), 1, 1}, {lam(variable(0)), 2, 2}, {node(api.App, variable(1), lam(variable(2))), 4, 3},
		{node(api.SuspEl, univ, univ, univ, univ, univ), 6, 2}, {node(api.Pair, fst(fst(univ)), univ), 5, 4}, {node(api.Pair, univ, fst(fst(univ))), 5, 4},
		{some(api.HComp, 0), 3, 2}, {some(api.HComp, 3), 6, 2}, {some(api.Glue, 2), 6, 2},
		{grown(node(api.Unglue, univ), nil, fst(univ)), 4, 3}, {grown(grown(node(api.Unglue, univ), nil, fst(fst(univ))), nil, univ), 6, 4}, {grown(node(api.Unglue, fst(fst(fst(univ)))), nil, univ), 6, 5},
		{grown(grown(node(api.Glue, univ), nil, univ, univ), nil, univ, fst(fst(univ))), 8, 4},
		// What may not be has nodes, too.
		{node(api.Var, univ, univ), 3, 2}, {node(-5, node(99, api.Term{})), 3, 3}, {grown(univ, nil, univ, fst(univ)), 4, 3}, {grown(univ, row{pos(1)}), 1, 1}, {wide(100001), 100001, 2},
		{times(65535, univ, fst), 65536, 65536}, {times(65535, univ, func(x api.Term) api.Term { return grown(univ, nil, x) }), 65536, 65536}, {balanced(70000), 70000, 17}, {bushy(500), 500, 2},
	} {
		if got := Size(x.t); got != x.size {
			t.Errorf("Size = %d, not %d", got, x.size)
		}
		if got := Depth(x.t); got != x.depth {
			t.Errorf("Depth = %d, not %d", got, x.depth)
		}
	}
}

// By another road: a list of all nodes, level by level.
func TestLevels(t *testing.T) {
	for _, x := range terms(4000) {
		nodes, levels := 0, 0
		for level := []api.Term{x}; len(level) > 0; levels++ {
			nodes += len(level)
			var next []api.Term
			for _, n := range level {
				next = append(next, n.Kids...)
				for _, b := range n.Sys {
					next = append(next, b.Kids...)
				}
			}
			level = next
		}
		if Size(x) != nodes || Depth(x) != levels {
			t.Fatalf("%v: %d and %d, not %d and %d", x, Size(x), Depth(x), nodes, levels)
		}
	}
}

// changes tells terms that differ from one in one thing alone: a field of a node, an element of a list more or fewer, two that are changed about.
func changes(x api.Term) []api.Term {
	var out []api.Term
	add := func(change func(t *api.Term)) {
		y := Copy(x)
		change(&y)
		out = append(out, y)
	}
	add(func(t *api.Term) { t.Kind++ })
	add(func(t *api.Term) { t.N-- })
	add(func(t *api.Term) { t.Name += "x" })
	add(func(t *api.Term) { t.Kids = append(t.Kids, api.Term{}) })
	add(func(t *api.Term) { t.Sys = append(t.Sys, api.Branch{}) })
	for _, r := range rowChanges(x.R) {
		add(func(t *api.Term) { t.R = r })
	}
	for k := range x.Kids {
		add(func(t *api.Term) { t.Kids = append(t.Kids[:k], t.Kids[k+1:]...) })
		for _, kid := range changes(x.Kids[k]) {
			add(func(t *api.Term) { t.Kids[k] = kid })
		}
	}
	for k, b := range x.Sys {
		add(func(t *api.Term) { t.Sys = append(t.Sys[:k], t.Sys[k+1:]...) })
		add(func(t *api.Term) { t.Sys[k].Kids = append(t.Sys[k].Kids, api.Term{}) })
		for _, r := range rowChanges(b.Face) {
			add(func(t *api.Term) { t.Sys[k].Face = r })
		}
		for n := range b.Kids {
			add(func(t *api.Term) { t.Sys[k].Kids = append(t.Sys[k].Kids[:n], t.Sys[k].Kids[n+1:]...) })
			for _, kid := range changes(b.Kids[n]) {
				add(func(t *api.Term) { t.Sys[k].Kids[n] = kid })
			}
		}
	}
	return out
}

func rowChanges(r row) []row {
	out := []row{append(r[:len(r):len(r)], api.Clause{}), append(row{pos(1)}, r...)}
	for k := range r {
		fewer := append(append(row{}, r[:k]...), r[k+1:]...)
		other, another := append(row{}, r...), append(row{}, r...)
		other[k].Pos ^= 1 << 31
		another[k].Neg ^= 1
		out = append(out, fewer, other, another)
	}
	return out
}

func TestSame(t *testing.T) {
	seen := 0
	for seed := range uint32(400) {
		g := sample.Grow(seed)
		x := g.Term(3, 3, g.Below(14))
		if !Same(x, x) || !Same(x, sample.Roomy(x)) {
			t.Fatalf("%v is not the same as itself", x)
		}
		for _, y := range changes(x) {
			seen++
			want := reflect.DeepEqual(plain(x), plain(y)) // two that are the same one behind the other: it does not tell which is left out
			if Same(x, y) != want || Same(y, x) != want {
				t.Fatalf("Same(%v, %v) = %v", x, y, !want)
			}
		}
	}
	if seen < 10000 {
		t.Errorf("only %d changes", seen)
	}
}

// A list without an element is the same as nil, in all places.
func TestSameOfEmptyLists(t *testing.T) {
	for _, x := range append(terms(1000), univ, api.Term{}, api.Term{Kind: -3, Sys: []api.Branch{{}}}, grown(univ, nil)) {
		y := plain(x)
		if !Same(x, y) || !Same(y, x) || !Same(Copy(x), y) || !Same(x, Copy(y)) {
			t.Fatalf("%v is not the same as %v", x, y)
		}
	}
}

func TestSameOfAnyFields(t *testing.T) {
	far := api.Term{Kind: math.MinInt, N: math.MaxInt, Name: "\xff\x00", R: row{pos(math.MaxUint32), pos(math.MaxUint32)}, Kids: make([]api.Term, 3), Sys: make([]api.Branch, 2)}
	if !Same(far, Copy(far)) {
		t.Error("not the same as its copy")
	}
	for k, x := range changes(far) {
		if Same(far, x) != reflect.DeepEqual(plain(far), plain(x)) {
			t.Errorf("change %d is not told", k)
		}
	}
}

func TestCopy(t *testing.T) {
	for _, x := range append(terms(3000), api.Term{}, wide(100), api.Term{Kind: -1, N: -2, Name: "?", R: row{pos(1 << 31)}, Kids: make([]api.Term, 2), Sys: []api.Branch{{}, {Face: row{{}, {}}, Kids: make([]api.Term, 1)}}}) {
		x = sample.Roomy(x)
		before := sample.Whole(x)
		got := Copy(x)
		if !reflect.DeepEqual(plain(got), plain(x)) || !Same(got, x) {
			t.Fatalf("Copy(%v) = %v", x, got)
		}
		if twice := sample.Spoil([]api.Term{got}); twice > 0 {
			t.Fatalf("%v: lists of one copy share memory", x)
		}
		if !reflect.DeepEqual(before, sample.Whole(x)) {
			t.Fatalf("%v: what was handed in was changed, or handed out", x)
		}
		if again := Copy(x); !Same(again, x) {
			t.Fatalf("Copy(%v) = %v the second time", x, again)
		}
	}
	if deep := times(65535, univ, fst); Depth(Copy(deep)) != 65536 {
		t.Error("a deep term's copy is not as deep")
	}
}

// A part that stands in two places of one term is copied for each.
func TestCopyOfWhatIsShared(t *testing.T) {
	part := some(api.HComp, 2)
	x := grown(node(api.Pair, part, part), part.Sys[0].Face, part, part)
	got := Copy(x)
	if !Same(got, x) || sample.Spoil([]api.Term{got}) > 0 {
		t.Error("parts of a copy share memory")
	}
}
