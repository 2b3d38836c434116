package face

import (
	"math"
	"slices"
	"testing"

	"hypercube/api"
	"hypercube/clause"
	"hypercube/sample"
)

const (
	full = sample.Full
	last = sample.Last
)

// row is what a face is written as, and a formula.
type row = []api.Clause

var (
	unit   = api.Clause{}
	always = row{unit}
)

// Short names for what the tests write most.
var (
	pos, neg, both = sample.Pos, sample.Neg, sample.Both
	pairs, bits    = sample.Pairs, sample.Bits
	singles, met   = sample.Singles, sample.Met
	told, refused  = sample.Told, sample.Refused
)

// rights tells faces that may be.
func rights() []row {
	return []row{
		nil, {}, {unit}, {pos(1)}, {neg(1)}, {pos(3)}, {both(1, 2)}, {pos(full)}, {neg(full)}, {both(1, full-1)}, {pos(last)}, {neg(last)}, {both(last, 1)},
		{neg(1), pos(1)}, {neg(1), neg(2)}, {neg(4), both(1, 2), pos(2)}, {pos(1), both(2, 4)}, {both(1, 4), both(1, 8), both(2, 1)}, {neg(last), pos(last)},
		singles(0, 24), pairs(3), pairs(63), pairs(64), met(pairs(64), neg(last)),
	}
}

// formulas tells formulas that may be: the faces, and some with clauses that clash.
func formulas() []row {
	return append(rights(), row{both(1, 1)}, row{both(full, full)}, row{both(1, 1), pos(2)}, row{neg(4), both(1, 1), pos(2)}, met(pairs(64), both(last, last)), append(pairs(63), both(last, last)))
}

// wrongClauses tells clauses that may not stand for what is so: some may not be, some clash.
func wrongClauses() []api.Clause {
	return []api.Clause{
		pos(1 << 24), neg(1 << 24), both(1, 1<<31), both(1<<24|1, 2), both(math.MaxUint32, math.MaxUint32), both(1<<24, 1<<24), both(1<<24, 1),
		both(1, 1), both(last, last), both(3, 6), both(full, 1), both(4, full), both(full, full),
	}
}

// P5.1.

func TestRight(t *testing.T) {
	for _, f := range rights() {
		if !Right(f) {
			t.Errorf("Right(%#x) = false", f)
		}
	}
	for _, f := range sample.WrongFaces() {
		if Right(f) {
			t.Errorf("Right(%#x) = true", f)
		}
	}
}

func TestRightIsWhatLeastTellsWithoutAClash(t *testing.T) {
	// All rows of at most three clauses on the first dimension and the last one.
	var some row
	for k := range uint32(16) {
		some = append(some, both(k&1|k>>1&1*last, k>>2&1|k>>3*last))
	}
	some = append(some, pos(1<<24), neg(1<<24|1))
	n := len(some)
	for k := range n * n * n {
		three := row{some[k%n], some[k/n%n], some[k/n/n]}
		for length := range 4 {
			f := three[:length]
			least, e := clause.Least(f)
			want := e == api.OK && slices.Equal(least, f)
			for _, c := range f {
				want = want && c.Pos&c.Neg == 0
			}
			if got := Right(f); got != want {
				t.Fatalf("Right(%#x) = %v", f, got)
			}
		}
	}
}

func TestOf(t *testing.T) {
	for _, x := range []struct {
		name    string
		f, want row
	}{
		{"0", nil, nil}, {"the empty row", row{}, nil}, {"1", row{unit}, always},
		{"i", row{pos(1)}, row{pos(1)}}, {"-i", row{neg(1)}, row{neg(1)}}, {"the last dimension's opposite", row{neg(last)}, row{neg(last)}},
		{"the example", row{neg(2), pos(1)}, row{neg(2), pos(1)}}, {"i join -i", row{neg(1), pos(1)}, row{neg(1), pos(1)}},
		{"i meet -i", row{both(1, 1)}, nil}, {"the last dimension and its opposite", row{both(last, last)}, nil}, {"48 literals, met", row{both(full, full)}, nil},
		{"a clash and others", row{both(1, 1), both(1, 2), pos(6), both(8, 24)}, row{both(1, 2), pos(6)}},
		{"clashes alone", row{both(1, 1), both(2, 2), both(4, 4)}, nil},
		{"64 clauses", pairs(64), pairs(64)}, {"63 clauses and a clash", append(pairs(63), both(last, last)), pairs(63)},
		{"64 clauses that clash", met(pairs(64), both(last, last)), nil},
	} {
		got, e := Of(x.f)
		told(t, "Of "+x.name, got, e, x.want)
	}
	for _, w := range sample.WrongFormulas() {
		got, e := Of(w)
		refused(t, "Of what is no formula", got, e, api.ErrArg)
	}
}

func TestOfZero(t *testing.T) {
	for _, x := range []struct {
		name    string
		f, want row
	}{
		{"0", nil, always}, {"the empty row", row{}, always}, {"1", row{unit}, nil},
		{"i", row{pos(1)}, row{neg(1)}}, {"-i", row{neg(1)}, row{pos(1)}}, {"the last dimension", row{pos(last)}, row{neg(last)}},
		{"i meet j", row{pos(3)}, row{neg(1), neg(2)}}, {"i join j", row{pos(1), pos(2)}, row{neg(3)}},
		{"i meet -i", row{both(1, 1)}, row{neg(1), pos(1)}}, {"i join -i", row{neg(1), pos(1)}, nil},
		{"i meet j, or not i", row{neg(1), pos(3)}, row{both(1, 2)}},
		{"i meet -j, or j meet -i", row{both(1, 2), both(2, 1)}, row{neg(3), pos(3)}},
		{"all dimensions, joined", singles(0, 24), row{neg(full)}},
		{"64 clauses", row{pos(bits(0, 8)), pos(bits(8, 16))}, sample.Least(each(0, 8, 8, 16))},
	} {
		got, e := OfZero(x.f)
		told(t, "OfZero of "+x.name, got, e, x.want)
	}
	for _, w := range sample.WrongFormulas() {
		got, e := OfZero(w)
		refused(t, "OfZero of what is no formula", got, e, api.ErrArg)
	}
}

// each tells the opposites of one dimension of a stretch and one of another, met, for all such.
func each(from, to, from2, to2 int) row {
	var out row
	for i := from; i < to; i++ {
		for k := from2; k < to2; k++ {
			out = append(out, neg(1<<i|1<<k))
		}
	}
	return out
}

// broad tells formulas whose opposite has more than 64 clauses. Of the second one's, eight clash: without them it would have 64.
func broad() []row {
	return []row{{pos(bits(0, 8)), pos(bits(8, 17))}, {neg(bits(0, 9)), pos(bits(0, 8))}, {pos(bits(0, 5)), pos(bits(5, 18))}}
}

func TestOfZeroIsRefusedAsNotIs(t *testing.T) {
	for _, f := range broad() {
		got, e := OfZero(f)
		refused(t, "OfZero of what Not refuses", got, e, api.ErrBig)
	}
}

// What counts for all: a face that may not be.

func TestWrongFaces(t *testing.T) {
	for _, w := range sample.WrongFaces() {
		for _, f := range append(rights(), w) {
			got, e := Join(w, f)
			refused(t, "Join(wrong, f)", got, e, api.ErrArg)
			got, e = Join(f, w)
			refused(t, "Join(f, wrong)", got, e, api.ErrArg)
			got, e = Meet(w, f)
			refused(t, "Meet(wrong, f)", got, e, api.ErrArg)
			got, e = Meet(f, w)
			refused(t, "Meet(f, wrong)", got, e, api.ErrArg)
			if is, e := Entails(w, f); is || e != api.ErrArg {
				t.Errorf("Entails(%#x, %#x) = %v, %d", w, f, is, e)
			}
			if is, e := Entails(f, w); is || e != api.ErrArg {
				t.Errorf("Entails(%#x, %#x) = %v, %d", f, w, is, e)
			}
		}
		for _, c := range append(wrongClauses(), unit, pos(1), both(2, 5), neg(last)) {
			got, e := Restrict(w, c)
			refused(t, "Restrict(wrong, c)", got, e, api.ErrArg)
			if is, e := Holds(w, c); is || e != api.ErrArg {
				t.Errorf("Holds(%#x, %#x) = %v, %d", w, c, is, e)
			}
		}
		for i := -1; i <= 24; i++ {
			got, e := All(w, i)
			refused(t, "All(wrong, i)", got, e, api.ErrArg)
			for _, r := range []row{nil, {unit}, {pos(2)}, {both(1, 1)}} {
				got, e = Put(w, i, r)
				refused(t, "Put(wrong, i, r)", got, e, api.ErrArg)
			}
		}
	}
}

// P5.2.

func TestJoin(t *testing.T) {
	for _, x := range []struct {
		name       string
		f, g, want row
	}{
		{"never and never", nil, row{}, nil}, {"never and always", nil, always, always}, {"always and always", always, always, always},
		{"never and i", nil, row{pos(1)}, row{pos(1)}}, {"always and i", always, row{pos(1)}, always}, {"i and i", row{pos(1)}, row{pos(1)}, row{pos(1)}},
		{"i and its opposite", row{pos(1)}, row{neg(1)}, row{neg(1), pos(1)}}, {"i, and i and j", row{pos(1)}, row{pos(3)}, row{pos(1)}},
		{"clauses between the other's", row{pos(1), pos(4)}, row{neg(2), pos(2), pos(8)}, row{neg(2), pos(1), pos(2), pos(4), pos(8)}},
		{"some needless of each", row{pos(1), pos(6)}, row{pos(2), pos(5)}, row{pos(1), pos(2)}},
		{"63 and one more", pairs(63), pairs(64)[63:], pairs(64)}, {"64 and the same", pairs(64), pairs(64), pairs(64)}, {"64 and never", pairs(64), nil, pairs(64)},
		{"64 and always", pairs(64), always, always}, {"64 and one that is needless", pairs(64), row{pos(7)}, pairs(64)},
		{"64 and one that makes them all needless", met(pairs(64), neg(last)), row{neg(last)}, row{neg(last)}},
	} {
		got, e := Join(x.f, x.g)
		told(t, "Join of "+x.name, got, e, x.want)
		got, e = Join(x.g, x.f)
		told(t, "Join, turned about, of "+x.name, got, e, x.want)
	}
	for _, x := range []struct{ f, g row }{
		{pairs(64), pairs(65)[64:]}, {pairs(64), row{neg(1)}}, {pairs(1), pairs(65)[1:]}, {pairs(64), pairs(128)[64:]},
	} {
		got, e := Join(x.f, x.g)
		refused(t, "Join of more than 64", got, e, api.ErrBig)
		got, e = Join(x.g, x.f)
		refused(t, "Join of more than 64", got, e, api.ErrBig)
	}
}

func TestMeet(t *testing.T) {
	for _, x := range []struct {
		name       string
		f, g, want row
	}{
		{"never and never", nil, row{}, nil}, {"never and always", nil, always, nil}, {"always and always", always, always, always},
		{"never and i", nil, row{pos(1)}, nil}, {"always and i", always, row{pos(1)}, row{pos(1)}}, {"i and i", row{pos(1)}, row{pos(1)}, row{pos(1)}},
		{"i and j", row{pos(1)}, row{pos(last)}, row{pos(1 | last)}}, {"i and -j", row{pos(1)}, row{neg(2)}, row{both(1, 2)}},
		{"i and its opposite", row{pos(1)}, row{neg(1)}, nil}, {"the last dimension and its opposite", row{neg(last)}, row{pos(last)}, nil},
		{"i, and i or -i", row{pos(1)}, row{neg(1), pos(1)}, row{pos(1)}}, {"i or -i, twice", row{neg(1), pos(1)}, row{neg(1), pos(1)}, row{neg(1), pos(1)}},
		{"some pairs clash", row{pos(1), pos(2)}, row{neg(1), pos(4)}, row{both(2, 1), pos(5), pos(6)}},
		{"all pairs clash", row{pos(3), pos(5)}, row{neg(1), neg(6)}, nil},
		{"pairs that are needless", row{pos(1), pos(2)}, row{neg(4), pos(1)}, row{pos(1), both(2, 4)}},
		{"always and 64", always, pairs(64), pairs(64)}, {"never and 64", nil, pairs(64), nil}, {"64 and themselves", pairs(64), pairs(64), pairs(64)},
		{"64 and what is below each", pairs(64), row{pos(full)}, row{pos(full)}}, {"64 and what clashes with each", pairs(64), row{neg(full)}, nil},
	} {
		got, e := Meet(x.f, x.g)
		told(t, "Meet of "+x.name, got, e, x.want)
		got, e = Meet(x.g, x.f)
		told(t, "Meet, turned about, of "+x.name, got, e, x.want)
	}
}

func TestMeetAtTheLimit(t *testing.T) {
	for _, x := range []struct {
		f, g row
		n    int
	}{
		{singles(0, 8), singles(8, 16), 64}, {singles(0, 7), singles(7, 16), 63}, {pairs(64), row{neg(last)}, 64},
		// There are 72 pairs and more, of which 64 do not clash.
		{singles(0, 8), append(row{neg(bits(0, 8))}, singles(8, 16)...), 64}, {pairs(64), row{neg(full - last), neg(last)}, 64},
		{singles(0, 5), singles(5, 18), 65}, {singles(0, 8), singles(8, 17), 72}, {singles(0, 8), append(row{neg(1)}, singles(8, 16)...), 71}, {pairs(64), row{neg(last), pos(last)}, 128},
	} {
		for _, two := range [][2]row{{x.f, x.g}, {x.g, x.f}} {
			got, e := Meet(two[0], two[1])
			switch {
			case x.n > 64:
				refused(t, "Meet of too many", got, e, api.ErrBig)
			case e != api.OK || len(got) != x.n || !Right(got):
				t.Errorf("Meet that has %d clauses: %d, %d", x.n, len(got), e)
			}
		}
	}
}

// P5.3.

func TestEntails(t *testing.T) {
	for _, x := range []struct {
		name string
		f, g row
		want bool
	}{
		{"never, never", nil, row{}, true}, {"never, always", nil, always, true}, {"always, never", always, nil, false}, {"always, always", always, always, true},
		{"never, i", nil, row{pos(1)}, true}, {"i, never", row{pos(1)}, nil, false}, {"i, always", row{pos(1)}, always, true}, {"always, i", always, row{pos(1)}, false},
		{"i, i", row{pos(1)}, row{pos(1)}, true}, {"i, -i", row{pos(1)}, row{neg(1)}, false}, {"i, j", row{pos(1)}, row{pos(2)}, false},
		{"i and j, i", row{pos(3)}, row{pos(1)}, true}, {"i, i and j", row{pos(1)}, row{pos(3)}, false}, {"i and -j, -j", row{both(1, 2)}, row{neg(2)}, true},
		{"always, i or -i", always, row{neg(1), pos(1)}, false}, {"i or -i, always", row{neg(1), pos(1)}, always, true},
		{"j, i and j or -i and j", row{pos(2)}, row{both(2, 1), pos(3)}, false},
		{"two below one each", row{both(2, 1), pos(5)}, row{neg(1), pos(1)}, true}, {"two, of which the last is not below", row{neg(1), pos(1)}, row{neg(1)}, false},
		{"two, of which the first is not below", row{neg(1), pos(1)}, row{pos(1)}, false}, {"one below one of many", row{pos(last | 3)}, pairs(64), true},
		{"63 of 64", pairs(63), pairs(64), true}, {"64 of 63", pairs(64), pairs(63), false}, {"64 of the same", pairs(64), pairs(64), true},
	} {
		if got, e := Entails(x.f, x.g); got != x.want || e != api.OK {
			t.Errorf("Entails(%s) = %v, %d", x.name, got, e)
		}
	}
}

func TestHolds(t *testing.T) {
	for _, x := range []struct {
		name string
		f    row
		c    api.Clause
		want bool
	}{
		{"never, of what says nothing", nil, unit, false}, {"never, of i", row{}, pos(1), false}, {"always, of what says nothing", always, unit, true}, {"always, of i", always, pos(1), true},
		{"i, of what says nothing", row{pos(1)}, unit, false}, {"i, of i", row{pos(1)}, pos(1), true}, {"i, of -i", row{pos(1)}, neg(1), false}, {"i, of j", row{pos(1)}, pos(2), false},
		{"i, of i and -j", row{pos(1)}, both(1, 2), true}, {"i and -j, of i", row{both(1, 2)}, pos(1), false}, {"i or -i, of what says nothing", row{neg(1), pos(1)}, unit, false},
		{"i or -i, of j", row{neg(1), pos(1)}, pos(2), false}, {"i or -i, of -i", row{neg(1), pos(1)}, neg(1), true}, {"the last clause", row{neg(1), pos(last)}, both(last, 2), true},
		{"64, of all", pairs(64), pos(full), true}, {"64, of one dimension", pairs(64), pos(1), false}, {"64, of the last one", pairs(64), pairs(64)[63], true}, {"64, of the next one", pairs(64), pairs(65)[64], false},
	} {
		if got, e := Holds(x.f, x.c); got != x.want || e != api.OK {
			t.Errorf("Holds(%s) = %v, %d", x.name, got, e)
		}
	}
}

func TestWrongClauses(t *testing.T) {
	for _, c := range wrongClauses() {
		for _, f := range rights() {
			got, e := Restrict(f, c)
			refused(t, "Restrict by a wrong clause", got, e, api.ErrArg)
			if is, e := Holds(f, c); is || e != api.ErrArg {
				t.Errorf("Holds(%#x, %#x) = %v, %d", f, c, is, e)
			}
		}
	}
}

// P5.4.

func TestRestrict(t *testing.T) {
	for _, x := range []struct {
		name string
		f    row
		c    api.Clause
		want row
	}{
		{"the example", row{both(1, 2), pos(4)}, pos(1), row{neg(2), pos(4)}},
		{"never", nil, pos(1), nil}, {"always", always, pos(1), always}, {"never, by nothing", row{}, unit, nil}, {"always, by nothing", always, unit, always},
		{"by a clause that says nothing", row{pos(4), both(9, 2)}, unit, row{pos(4), both(9, 2)}}, {"64, by nothing", pairs(64), unit, pairs(64)},
		{"a clause whose literals are all c's", row{both(1, 2)}, both(5, 10), always}, {"the same, beside another", row{neg(16), both(1, 2)}, both(1, 2), always},
		{"i by i", row{pos(1)}, pos(1), always}, {"i by -i", row{pos(1)}, neg(1), nil}, {"-i by i", row{neg(1)}, pos(1), nil}, {"-i by -i", row{neg(1)}, neg(1), always}, {"i by j", row{pos(1)}, pos(2), row{pos(1)}},
		{"i or -i, by i", row{neg(1), pos(1)}, pos(1), always}, {"i or -i, by j", row{neg(1), pos(1)}, pos(2), row{neg(1), pos(1)}},
		{"some clash", row{both(2, 1), pos(5)}, pos(1), row{pos(4)}}, {"all clash", row{both(2, 1), both(4, 1)}, pos(1), nil},
		{"what becomes needless", row{pos(3), pos(6)}, pos(1), row{pos(2)}}, {"what becomes one", row{pos(5), pos(6)}, pos(3), row{pos(4)}},
		{"what changes the order", row{pos(2), pos(5)}, pos(4), row{pos(1), pos(2)}},
		{"the last dimension", row{both(last, 1)}, both(last, 2), row{neg(1)}},
		{"a literal of each side", row{both(3, 12)}, both(1, 4), row{both(2, 8)}},
		{"64 by one of all", met(pairs(64), pos(last)), pos(last), pairs(64)}, {"64 that clash", met(pairs(64), pos(last)), neg(last), nil}, {"64 by what they have not", pairs(64), neg(last), pairs(64)},
		{"64 by all", pairs(64), pos(full), always}, {"64 by all opposites", pairs(64), neg(full), nil},
	} {
		got, e := Restrict(x.f, x.c)
		told(t, "Restrict: "+x.name, got, e, x.want)
	}
}

func TestAll(t *testing.T) {
	for _, x := range []struct {
		name string
		f    row
		i    int
		want row
	}{
		{"the example", row{neg(1), pos(1), pos(2)}, 0, row{pos(2)}}, {"never", nil, 0, nil}, {"always", always, 23, always},
		{"i", row{pos(1)}, 0, nil}, {"-i", row{neg(1)}, 0, nil}, {"i or -i", row{neg(1), pos(1)}, 0, nil}, {"i, for j", row{pos(1)}, 1, row{pos(1)}},
		{"i and j, or -i and j", row{both(2, 1), pos(3)}, 0, nil}, {"a dimension that it has not", row{pos(1), both(2, 4)}, 3, row{pos(1), both(2, 4)}},
		{"one side of a clause", row{pos(1), both(2, 4)}, 2, row{pos(1)}}, {"the last dimension", row{both(1, last), pos(2), pos(last | 4)}, 23, row{pos(2)}},
		{"64 without it", pairs(64), 23, pairs(64)}, {"64 with it", met(pairs(64), neg(last)), 23, nil}, {"63 of 64", append(pairs(63), pos(last)), 23, pairs(63)},
	} {
		got, e := All(x.f, x.i)
		told(t, "All: "+x.name, got, e, x.want)
	}
}

func TestNoDimension(t *testing.T) {
	for _, i := range sample.NoDimensions() {
		for _, f := range rights() {
			got, e := All(f, i)
			refused(t, "All for no dimension", got, e, api.ErrArg)
			for _, r := range append(broad(), nil, row{unit}, row{pos(1)}) {
				got, e = Put(f, i, r)
				refused(t, "Put of no dimension", got, e, api.ErrArg)
			}
		}
	}
}

// P5.5.

func TestPut(t *testing.T) {
	for _, x := range []struct {
		name string
		f    row
		i    int
		r    row
		want row
	}{
		{"the example", row{pos(1)}, 0, row{pos(6)}, row{pos(6)}},
		{"j meet k in i=0", row{neg(1)}, 0, row{pos(6)}, row{neg(2), neg(4)}}, {"j join k in i=1", row{pos(1)}, 0, row{pos(2), pos(4)}, row{pos(2), pos(4)}}, {"j join k in i=0", row{neg(1)}, 0, row{pos(2), pos(4)}, row{neg(6)}},
		{"0 in never", nil, 0, nil, nil}, {"j in never", row{}, 3, row{pos(2)}, nil}, {"j in always", always, 3, row{pos(2)}, always},
		{"0 in i=1", row{pos(1)}, 0, nil, nil}, {"1 in i=1", row{pos(1)}, 0, row{unit}, always}, {"0 in i=0", row{neg(1)}, 0, nil, always}, {"1 in i=0", row{neg(1)}, 0, row{unit}, nil},
		{"-i in i=1", row{pos(1)}, 0, row{neg(1)}, row{neg(1)}}, {"-i in i=0", row{neg(1)}, 0, row{neg(1)}, row{pos(1)}}, {"i in i=0", row{neg(1)}, 0, row{pos(1)}, row{neg(1)}},
		{"j meet -j in i=1", row{pos(1)}, 0, row{both(2, 2)}, nil}, {"j meet -j in i=0", row{neg(1)}, 0, row{both(2, 2)}, row{neg(2), pos(2)}},
		{"j join -j in i=1", row{pos(1)}, 0, row{neg(2), pos(2)}, row{neg(2), pos(2)}}, {"j join -j in i=0", row{neg(1)}, 0, row{neg(2), pos(2)}, nil},
		{"a clause with i and one with -i", row{neg(1), pos(1)}, 0, row{pos(2)}, row{neg(2), pos(2)}}, {"0 in the same", row{neg(1), pos(1)}, 0, nil, always}, {"1 in the same", row{neg(1), pos(1)}, 0, row{unit}, always},
		{"a clash in the same", row{neg(1), pos(1)}, 0, row{both(2, 2)}, row{neg(2), pos(2)}}, {"more in the same", row{both(1, 8), both(4, 1)}, 0, row{pos(2)}, row{both(2, 8), both(4, 2)}},
		{"what clashes with the rest", row{both(1, 2)}, 0, row{pos(2)}, nil}, {"what clashes with the rest in part", row{both(1, 2)}, 0, row{pos(2), pos(4)}, row{both(4, 2)}},
		{"what clashes with the rest of -i", row{both(2, 1)}, 0, row{pos(2)}, nil}, {"what the rest has", row{pos(3)}, 0, row{pos(2)}, row{pos(2)}},
		{"a dimension that is not there", row{pos(1), both(2, 4)}, 3, row{pos(1)}, row{pos(1), both(2, 4)}}, {"the last dimension", row{both(1, last)}, 23, row{pos(2)}, row{both(1, 2)}},
		{"the rest of a clause stays", row{both(5, 8)}, 2, row{pos(2), pos(16)}, row{both(3, 8), both(17, 8)}},
		{"what becomes needless", row{pos(1), pos(6)}, 1, row{pos(1)}, row{pos(1)}}, {"what becomes one", row{pos(1), pos(2)}, 0, row{pos(2)}, row{pos(2)}}, {"what changes the order", row{pos(1), pos(2)}, 0, row{pos(4)}, row{pos(2), pos(4)}},
		{"64 in i=1", row{pos(last)}, 23, pairs(64), pairs(64)}, {"i in 64", pairs(64), 23, row{pos(1)}, pairs(64)}, {"0 in 64", met(pairs(64), pos(last)), 23, nil, nil}, {"0 in 64 with -i", met(pairs(64), neg(last)), 23, nil, pairs(64)},
		{"63 and a clash in i=1", row{pos(1)}, 0, append(pairs(63), both(last, last)), pairs(63)},
	} {
		got, e := Put(x.f, x.i, x.r)
		told(t, "Put: "+x.name, got, e, x.want)
	}
}

func TestPutOfWhatIsNoFormula(t *testing.T) {
	for _, w := range sample.WrongFormulas() {
		for _, f := range rights() {
			for _, i := range []int{0, 5, 23} {
				got, e := Put(f, i, w)
				refused(t, "Put of what is no formula", got, e, api.ErrArg)
			}
		}
	}
}

func TestPutAsksForZeroOnlyWhereItMust(t *testing.T) {
	for _, r := range broad() {
		ones, e := Of(r)
		if e != api.OK {
			t.Fatalf("Of %#x: %d", r, e)
		}
		for _, x := range []struct{ f, want row }{
			{nil, nil}, {always, always}, {row{pos(1 << 20)}, ones}, {row{both(1<<21, 1<<22)}, row{both(1<<21, 1<<22)}}, {row{neg(1 << 21), pos(1 << 20)}, sample.Least(append(row{neg(1 << 21)}, ones...))},
		} {
			got, e := Put(x.f, 20, r)
			told(t, "Put where no clause has -i", got, e, x.want)
		}
		for _, f := range []row{{neg(1 << 20)}, {neg(1 << 20), pos(1 << 20)}, {neg(1 << 20), pos(1)}, {pos(1), both(2, 1<<20)}, {both(1, 1<<20)}} {
			got, e := Put(f, 20, r)
			refused(t, "Put where a clause has -i", got, e, api.ErrBig)
		}
	}
}

func TestPutAtTheLimit(t *testing.T) {
	got, e := Put(row{pos(1 << 22), pos(last)}, 22, pairs(64))
	refused(t, "Put of 65 clauses", got, e, api.ErrBig)
	got, e = Put(row{pos(1 << 22), pos(last)}, 22, pairs(63))
	told(t, "Put of 64 clauses", got, e, append(pairs(63), pos(last)))
	// Where i is 0 there are 64 clauses, where it is 1 two.
	got, e = Put(row{neg(1 << 22)}, 22, row{pos(bits(0, 8)), pos(bits(8, 16))})
	told(t, "Put of 64 clauses where i is 0", got, e, sample.Least(each(0, 8, 8, 16)))
	got, e = Put(row{neg(1 << 22), pos(1 << 22)}, 22, row{pos(bits(0, 8)), pos(bits(8, 16))})
	refused(t, "Put of 66 clauses", got, e, api.ErrBig)
}

func TestPutGoesClauseByClause(t *testing.T) {
	// Behind the second clause there are 65; the third one would leave two of them.
	got, e := Put(row{pos(1 << 21), pos(1 << 22), pos(last)}, 21, met(pairs(64), pos(last)))
	refused(t, "Put that is too great on the way", got, e, api.ErrBig)
	// The same, with the clause that makes r's needless ahead of the other one.
	got, e = Put(row{neg(1), pos(1 << 21), pos(1 << 22)}, 21, met(pairs(64), neg(1)))
	told(t, "Put that is small on the way", got, e, row{neg(1), pos(1 << 22)})
}

// Rule 4: what is handed in stays as it is, and what is handed out is new.

func TestArgumentsStay(t *testing.T) {
	calls := map[string]func(f, g row) (row, api.Errno){
		"Right":       func(f, g row) (row, api.Errno) { Right(f); return nil, api.OK },
		"Of":          func(f, g row) (row, api.Errno) { return Of(f) },
		"OfZero":      func(f, g row) (row, api.Errno) { return OfZero(f) },
		"Join":        Join,
		"Meet":        Meet,
		"Entails":     func(f, g row) (row, api.Errno) { _, e := Entails(f, g); return nil, e },
		"Holds":       func(f, g row) (row, api.Errno) { _, e := Holds(f, pos(1)); return nil, e },
		"Restrict":    func(f, g row) (row, api.Errno) { return Restrict(f, pos(1)) },
		"Restrict, 0": func(f, g row) (row, api.Errno) { return Restrict(f, unit) },
		"All":         func(f, g row) (row, api.Errno) { return All(f, 5) },
		"All, 23":     func(f, g row) (row, api.Errno) { return All(f, 23) },
		"Put":         func(f, g row) (row, api.Errno) { return Put(f, 0, g) },
		"Put, 5":      func(f, g row) (row, api.Errno) { return Put(f, 5, g) },
		"Put, 23":     func(f, g row) (row, api.Errno) { return Put(f, 23, g) },
	}
	for name, call := range calls {
		for _, f := range formulas() {
			for _, g := range formulas() {
				sample.Apart(t, name, call, f, g)
			}
		}
	}
}
