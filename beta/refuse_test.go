package beta

import (
	"math"
	"slices"
	"testing"

	"hypercube/api"
	"hypercube/sample"
)

const billion = 1000000000

// wide tells a formula of so many clauses with a literal, of two dimensions from one on each.
func wide(clauses, from int, literal api.Clause) api.Term {
	l := sample.Pairs(clauses)
	for k := range l {
		l[k].Pos <<= from
	}
	return loops(sample.Least(sample.Met(l, literal))...)
}

// fault is something that is refused, and how it comes into two parts of a term: into each ahead of what is there.
type fault struct {
	e        api.Errno
	one, two api.Term
}

// ahead tells a part with something more.
func ahead(part, more api.Term) api.Term {
	if more.Kind != 0 || len(more.Kids) > 0 {
		part.Sys = append([]api.Branch{{Face: always, Kids: []api.Term{more}}}, part.Sys...)
	}
	return part
}

func (f fault) into(one, two api.Term) (api.Term, api.Term) {
	return ahead(one, f.one), ahead(two, f.two)
}

// unformed tells what Formed refuses of a term with both parts; the one is so deep in it, the other one deeper or not.
func unformed(atOne, atTwo int) []fault {
	deep := func(at int) api.Term { return times(200-at, univ, fst) }
	return []fault{
		{api.ErrDeep, deep(atOne), api.Term{}}, {api.ErrDeep, api.Term{}, deep(atTwo)}, {api.ErrSize, sample.Balanced(19999), api.Term{}}, {api.ErrSize, api.Term{}, sample.Balanced(19999)}, {api.ErrSize, sample.Balanced(10000), sample.Balanced(10000)},
		{api.ErrTerm, v(-1), api.Term{}}, {api.ErrTerm, api.Term{}, v(math.MinInt)}, {api.ErrTerm, fst(api.Term{}), api.Term{}}, {api.ErrTerm, api.Term{}, loops(pos(1 << 24))}, {api.ErrTerm, lam(loops(one[0], pos(1))), api.Term{}},
	}
}

// hasFirst holds that each of all faults is told, and of two the first.
func hasFirst(t *testing.T, name string, all []fault, whole func(one, two api.Term) api.Term) {
	t.Helper()
	part := of(api.MkGlue, univ)
	if got, ok, e := Step(whole(part, part)); !ok || e != api.OK {
		t.Errorf("%s without a fault: %s, %d", name, short(got), e)
	}
	for n, first := range all {
		steps(t, whole(first.into(part, part)), api.Term{}, first.e)
		for k, second := range all[n:] {
			steps(t, whole(first.into(second.into(part, part))), api.Term{}, first.e)
			if t.Failed() {
				t.Fatalf("%s of the faults %d and %d", name, n, n+k)
			}
		}
	}
}

func TestWhichIsToldFirst(t *testing.T) {
	far, high := fault{api.ErrTerm, lam(v(1)), v(billion)}, fault{api.ErrDims, plam(v(0)), loop(23)}
	ofAt := []fault{{api.ErrSize, pair(v(0), v(0)), sample.Balanced(9999)}, {api.ErrTerm, v(0), v(billion + 1)}, far, high, far, {api.ErrDeep, times(100, v(0), fst), times(100, univ, fst)}}
	hasFirst(t, "App", slices.Concat(unformed(3, 2), ofAt), func(one, two api.Term) api.Term { return app(lam(one), two) })
	big, behind := fault{api.ErrBig, wide(33, 1, pos(1)), api.Term{}}, fault{api.ErrDims, plam(loop(1)), loop(23)}
	ofTake := []fault{big, behind, big, {api.ErrDims, plam(plam(loops(neg(4)))), v(math.MaxInt)}}
	hasFirst(t, "PApp", slices.Concat(unformed(3, 2), ofTake), func(one, two api.Term) api.Term {
		return papp(plam(one), two, univ, row{neg(1), pos(1 << 22)})
	})
	hasFirst(t, "The", unformed(2, 2), func(one, two api.Term) api.Term { return of(api.The, one, two) })
	hasFirst(t, "Fst", unformed(3, 3), func(one, two api.Term) api.Term { return fst(pair(one, two)) })
	hasFirst(t, "CircleEl", slices.Concat(unformed(2, 2), []fault{{api.ErrSize, api.Term{}, sample.Balanced(9999)}}), func(one, two api.Term) api.Term { return of(api.CircleEl, one, two, univ, loop(0)) })
	// A part of no use is asked, too; and one that comes to be a node deeper is refused at the end.
	deeper := fault{api.ErrDeep, times(197, univ, fst), api.Term{}}
	hasFirst(t, "SuspEl", slices.Concat(unformed(2, 2), []fault{deeper}), func(one, two api.Term) api.Term { return of(api.SuspEl, two, two, univ, one, merid(univ, i)) })
	hasFirst(t, "Unglue", slices.Concat(unformed(2, 2), []fault{deeper}), func(one, two api.Term) api.Term { return grown(of(api.Unglue, two), always, one) })
	hasFirst(t, "HComp", unformed(2, 2), func(one, two api.Term) api.Term { return grown(of(api.HComp, two, univ), always, one) })
}

// What is no term is refused, whether it would step or not, and wherever it stands: in what goes, too.
func TestNoTerms(t *testing.T) {
	for want, l := range map[api.Errno][]api.Term{
		api.ErrTerm: {{}, v(-1), v(math.MinInt), of(api.Lam), app(lam(v(0)), v(-1)), fst(pair(univ, of(api.Univ, univ))), {Kind: 29}, {Kind: -1}, {Kind: math.MinInt}, loops(pos(1 << 24)), loops(pos(1), pos(3)), carry(univ, univ, row{both(1, 1)}), grown(univ, never, univ), {Kind: api.Const}, {Kind: api.Const, Name: "1"}, {Kind: api.Univ, N: 1}, with(univ, always)},
		api.ErrDeep: {times(200, univ, fst), times(199, pair(univ, univ), fst), times(1000, api.Term{}, fst), pair(sample.Balanced(20001), times(199, univ, lam))},
		api.ErrSize: {sample.Balanced(20001), sample.Bushy(20001), pair(api.Term{}, sample.Balanced(19999)), app(lam(v(0)), sample.Balanced(19998))},
	} {
		for _, bad := range l {
			steps(t, bad, api.Term{}, want)
			inEachPlace(t, always, univ, bad, want)
			if want == api.ErrTerm {
				inEachPlace(t, here, univ, bad, want)
				inEachPlace(t, never, pair(univ, univ), bad, want)
			}
		}
	}
}

// inEachPlace holds that a bad part is told in each place of each kind, the others of which have a row and a term.
func inEachPlace(t *testing.T, r row, plain, bad api.Term, want api.Errno) {
	t.Helper()
	for kind := api.Var; kind <= api.The; kind++ {
		_, rows := sample.Places(kind, func(int) row { return r }, func(int) api.Term { return plain })
		for place, isRow := range rows {
			x, _ := sample.Places(kind, func(int) row { return r }, func(k int) api.Term {
				if k == place {
					return bad
				}
				return plain
			})
			if !isRow {
				steps(t, x, api.Term{}, want)
			}
		}
	}
}

func TestWrongRows(t *testing.T) {
	for kind := api.Var; kind <= api.The; kind++ {
		bad := sample.WrongFaces()
		if sample.Forms()[kind].Formula {
			bad = sample.WrongFormulas()
		}
		_, rows := sample.Places(kind, func(int) row { return always }, func(int) api.Term { return univ })
		for place, isRow := range rows {
			for _, b := range bad {
				x, _ := sample.Places(kind, func(k int) row {
					if k == place {
						return b
					}
					return always
				}, func(int) api.Term { return univ })
				if isRow {
					steps(t, x, api.Term{}, api.ErrTerm)
				}
			}
		}
	}
}

func TestWrongForms(t *testing.T) {
	forms := sample.Forms()
	for _, x := range sample.InEachPlace(2, func(byte) api.Term { return univ }, one, always) {
		more, named, numbered, sized := x, x, x, x
		more.Kids = append(slices.Clone(x.Kids), univ)
		named.Name, numbered.N = x.Name+"-", -1-x.N
		sized.Sys = append(slices.Clone(x.Sys), api.Branch{Face: always, Kids: make([]api.Term, len(forms[x.Kind].Branch)+1)})
		wrong := []api.Term{more, named, numbered, sized}
		if len(x.Kids) > 0 {
			wrong = append(wrong, with(of(x.Kind, x.Kids[1:]...), x.R), with(of(x.Kind), x.R))
		}
		if f := forms[x.Kind]; f.Branch != "" {
			wrong = append(wrong, grown(x, always), grown(x, never, univ, univ, univ))
		} else {
			wrong = append(wrong, grown(x, always, univ))
		}
		if f := forms[x.Kind]; !f.Formula && !f.Face {
			wrong = append(wrong, with(x, always), with(x, i))
		}
		for _, bad := range wrong {
			steps(t, bad, api.Term{}, api.ErrTerm)
		}
	}
}

// What plug's At refuses, and dims' Take.
func TestWhatIsPutIsRefused(t *testing.T) {
	far, high := v(billion+1), loop(23)
	for _, x := range []struct {
		from api.Term
		want api.Errno
	}{
		{app(lam(v(0)), far), api.ErrTerm}, {app(lam(lam(v(1))), v(billion)), api.ErrTerm}, {app(lam(plam(v(0))), high), api.ErrDims}, {app(lam(plam(plam(v(0)))), loop(22)), api.ErrDims}, {app(lam(grown(of(api.HComp, univ, univ), never, v(0))), high), api.ErrDims}, {app(lam(pair(plam(v(0)), lam(v(1)))), pair(high, v(billion))), api.ErrDims}, {app(lam(pair(lam(v(1)), plam(v(0)))), pair(high, v(billion))), api.ErrTerm}, {app(lam(plam(v(0))), pair(high, far)), api.ErrTerm},
		{app(lam(pair(v(0), pair(v(0), v(0)))), sample.Balanced(6667)), api.ErrSize}, {app(lam(pair(v(0), pair(v(0), v(0)))), pair(far, sample.Balanced(6666))), api.ErrSize}, {app(lam(pair(plam(v(0)), times(150, v(0), fst))), times(51, high, fst)), api.ErrDims}, {app(lam(times(150, v(0), fst)), times(50, univ, fst)), api.ErrDeep}, {app(lam(pair(times(150, v(0), fst), sample.Bushy(10000))), pair(times(60, univ, fst), sample.Bushy(9700))), api.ErrDeep},
		{papp(plam(univ), univ, univ, row{pos(sample.Last)}), api.ErrDims}, {papp(plam(wide(33, 1, pos(1))), univ, univ, row{neg(2), pos(sample.Last)}), api.ErrDims}, {papp(plam(wide(33, 1, pos(1))), univ, univ, row{neg(1 << 20), pos(1 << 21)}), api.ErrBig}, {papp(plam(wide(33, 1, neg(1))), univ, univ, row{both(1<<20, 1<<21)}), api.ErrBig}, {papp(plam(plam(loop(1))), univ, univ, row{pos(1 << 22)}), api.ErrDims}, {papp(plam(pair(plam(loop(1)), wide(33, 1, pos(1)))), univ, univ, row{neg(1), pos(1 << 22)}), api.ErrDims}, {papp(plam(pair(wide(33, 1, pos(1)), plam(loop(1)))), univ, univ, row{neg(1), pos(1 << 22)}), api.ErrBig},
		{papp(plam(loops(neg(1))), univ, univ, seven()), api.ErrBig}, {papp(plam(grown(of(api.MkGlue, univ), row{neg(1)}, univ)), univ, univ, seven()), api.ErrBig},
	} {
		steps(t, x.from, api.Term{}, x.want)
	}
}

// seven tells seven pairs of dimensions, joined: the opposite has 128 clauses.
func seven() row {
	var out row
	for k := range 7 {
		out = append(out, pos(3<<(2*k)))
	}
	return out
}

// What nothing is put into is not refused: where a row ahead counts, where no row does, and what is nowhere put.
func TestWhatIsNotRefused(t *testing.T) {
	far, high, big := v(math.MaxInt), loop(23), wide(33, 1, pos(1))
	all := pair(far, pair(high, pair(big, plam(loop(1)))))
	r := row{neg(1), pos(sample.Last)}
	hold(t, []step{
		{app(lam(univ), all), univ}, {app(lam(v(math.MaxInt)), univ), v(math.MaxInt - 1)}, {app(lam(high), all), high}, {app(lam(plam(v(0))), wide(64, 0, pos(1<<20))), plam(wide(64, 1, pos(1<<21)))}, {app(all, all), api.Term{}}, {app(of(api.The, lam(v(0)), univ), far), api.Term{}},
		{papp(plam(all), all, univ, zero), all}, {papp(plam(all), univ, all, one), all}, {papp(all, all, all, r), api.Term{}}, {papp(plam(big), all, all, row{pos(1 << 22)}), wide(33, 0, pos(1<<22))}, {papp(plam(pair(high, far)), univ, univ, i), pair(loop(22), far)},
		{fst(pair(all, univ)), all}, {snd(pair(all, all)), all}, {loops(r...), api.Term{}}, {merid(all, r), api.Term{}}, {merid(all, one), south}, {of(api.The, all, all), all}, {carry(all, all, always), all}, {of(api.CircleEl, all, all, all, base), all}, {of(api.CircleEl, all, all, all, loops(r...)), papp(all, all, all, r)}, {of(api.SuspEl, all, all, all, all, merid(all, r)), papp(app(all, all), all, all, r)},
		{of(api.Unglue, of(api.MkGlue, all)), all}, {grown(of(api.Unglue, all), always, all), app(fst(all), all)}, {grown(of(api.Glue, univ), always, all, all), all}, {grown(of(api.HComp, all, all), always, pair(far, high)), pair(far, loop(22))}, {grown(of(api.HComp, all, all), here, all), api.Term{}},
	})
}
