package formula

import (
	"math"
	"slices"
	"testing"

	"hypercube/api"
	"hypercube/clause"
	"hypercube/sample"
)

const (
	full = sample.Full
	last = sample.Last
)

// row is what a formula is written as.
type row = []api.Clause

var top = api.Clause{}

// Short names for what the tests write most.
var (
	pos, neg, both = sample.Pos, sample.Neg, sample.Both
	pairs          = sample.Pairs
	singles, bits  = sample.Singles, sample.Bits
	met            = sample.Met
	told, refused  = sample.Told, sample.Refused
	many           = sample.Great
)

// rights tells formulas that may be.
func rights() []row {
	return []row{
		nil, {}, {top}, {pos(1)}, {neg(1)}, {both(1, 1)}, {pos(3)}, {both(full, full)}, {pos(last)}, {neg(last)}, {both(last, 1)},
		{neg(1), pos(1)}, {neg(1), neg(2)}, {neg(4), both(1, 1), pos(2)}, {pos(1), both(2, 4)}, {both(1, 4), both(1, 8), both(2, 1)}, {neg(last), pos(last)},
		singles(0, 24), pairs(3), pairs(63), pairs(64), met(pairs(64), both(0, last)),
	}
}

// P3.1.

func TestRight(t *testing.T) {
	for _, f := range rights() {
		if !Right(f) {
			t.Errorf("Right(%#x) = false", f)
		}
	}
	for _, f := range sample.WrongFormulas() {
		if Right(f) {
			t.Errorf("Right(%#x) = true", f)
		}
	}
}

func TestRightIsWhatLeastTells(t *testing.T) {
	// All rows of at most three clauses on a dimension, and on the first and the last one.
	var some row
	for p := range uint32(4) {
		for n := range uint32(4) {
			some = append(some, both(p&1|p>>1*last, n&1|n>>1*last))
		}
	}
	some = append(some, pos(1<<24), neg(1<<24|1))
	n := len(some)
	for k := range n * n * n {
		three := row{some[k%n], some[k/n%n], some[k/n/n]}
		for length := range 4 {
			f := three[:length]
			least, e := clause.Least(f)
			if got, want := Right(f), e == api.OK && slices.Equal(least, f); got != want {
				t.Fatalf("Right(%#x) = %v", f, got)
			}
		}
	}
}

func TestZeroAndOne(t *testing.T) {
	told(t, "Zero", Zero(), api.OK, nil)
	told(t, "One", One(), api.OK, row{top})
	One()[0] = pos(1)
	told(t, "One, once more", One(), api.OK, row{top})
}

func TestDim(t *testing.T) {
	for i := range 24 {
		got, e := Dim(i)
		told(t, "Dim", got, e, row{pos(1 << i)})
	}
	for _, i := range sample.NoDimensions() {
		got, e := Dim(i)
		refused(t, "Dim", got, e, api.ErrArg)
	}
}

// What counts for all: a formula that may not be.

func TestWrongFormulas(t *testing.T) {
	for _, w := range sample.WrongFormulas() {
		for _, f := range rights() {
			got, e := Join(w, f)
			refused(t, "Join(wrong, f)", got, e, api.ErrArg)
			got, e = Join(f, w)
			refused(t, "Join(f, wrong)", got, e, api.ErrArg)
			got, e = Meet(w, f)
			refused(t, "Meet(wrong, f)", got, e, api.ErrArg)
			got, e = Meet(f, w)
			refused(t, "Meet(f, wrong)", got, e, api.ErrArg)
			for _, i := range []int{0, 5, 23} {
				got, e = Put(w, i, f)
				refused(t, "Put(wrong, i, f)", got, e, api.ErrArg)
				got, e = Put(f, i, w)
				refused(t, "Put(f, i, wrong)", got, e, api.ErrArg)
			}
		}
		got, e := Join(w, w)
		refused(t, "Join(wrong, wrong)", got, e, api.ErrArg)
		got, e = Meet(w, w)
		refused(t, "Meet(wrong, wrong)", got, e, api.ErrArg)
		got, e = Not(w)
		refused(t, "Not(wrong)", got, e, api.ErrArg)
		got, e = Lift(w, 0, 0)
		refused(t, "Lift(wrong)", got, e, api.ErrArg)
		got, e = Lift(w, 0, 24)
		refused(t, "Lift(wrong) out of the dimensions", got, e, api.ErrArg)
	}
}

// P3.2.

func TestJoin(t *testing.T) {
	for _, x := range []struct {
		name       string
		f, g, want row
	}{
		{"0 and 0", nil, nil, nil},
		{"0 and 1", nil, row{top}, row{top}},
		{"1 and 1", row{top}, row{top}, row{top}},
		{"0 and i", row{}, row{pos(1)}, row{pos(1)}},
		{"1 and i", row{top}, row{pos(1)}, row{top}},
		{"i and i", row{pos(1)}, row{pos(1)}, row{pos(1)}},
		{"the example", row{pos(1)}, row{pos(3)}, row{pos(1)}},
		{"i and its opposite", row{pos(1)}, row{neg(1)}, row{neg(1), pos(1)}},
		{"i and i met with its opposite", row{pos(1)}, row{both(1, 1)}, row{pos(1)}},
		{"clauses between the other's", row{pos(1), pos(4)}, row{neg(2), pos(2), pos(8)}, row{neg(2), pos(1), pos(2), pos(4), pos(8)}},
		{"some needless of each", row{pos(1), pos(6)}, row{pos(2), pos(5)}, row{pos(1), pos(2)}},
		{"63 and one more", pairs(64)[:63], pairs(64)[63:], pairs(64)},
		{"64 and the same 64", pairs(64), pairs(64), pairs(64)},
		{"64 and 0", pairs(64), nil, pairs(64)},
		{"64 and one that is needless", pairs(64), row{pos(7)}, pairs(64)},
		{"64 and 1", pairs(64), row{top}, row{top}},
		{"64 and one that makes them all needless", met(pairs(64), neg(last)), row{neg(last)}, row{neg(last)}},
	} {
		got, e := Join(x.f, x.g)
		told(t, "Join of "+x.name, got, e, x.want)
		got, e = Join(x.g, x.f)
		told(t, "Join, turned about, of "+x.name, got, e, x.want)
	}
	for _, x := range []struct{ f, g row }{
		{pairs(64), pairs(65)[64:]}, {pairs(64), row{neg(1)}}, {pairs(1), pairs(65)[1:]},
	} {
		got, e := Join(x.f, x.g)
		refused(t, "Join of 65", got, e, api.ErrBig)
		got, e = Join(x.g, x.f)
		refused(t, "Join of 65", got, e, api.ErrBig)
	}
}

func TestMeet(t *testing.T) {
	for _, x := range []struct {
		name       string
		f, g, want row
	}{
		{"0 and 0", nil, nil, nil},
		{"0 and 1", nil, row{top}, nil},
		{"1 and 1", row{top}, row{top}, row{top}},
		{"0 and i", row{}, row{pos(1)}, nil},
		{"1 and i", row{top}, row{pos(1)}, row{pos(1)}},
		{"i and i", row{pos(1)}, row{pos(1)}, row{pos(1)}},
		{"i and j", row{pos(1)}, row{pos(last)}, row{pos(1 | last)}},
		{"the example: i and its opposite", row{pos(1)}, row{neg(1)}, row{both(1, 1)}},
		{"i, and i joined with j", row{pos(1)}, row{pos(1), pos(2)}, row{pos(1)}},
		{"i joined with j, and k", row{pos(1), pos(2)}, row{pos(4)}, row{pos(5), pos(6)}},
		{"pairs that are needless", row{pos(1), pos(2)}, row{neg(1), pos(1)}, row{pos(1), both(2, 1)}},
		{"0 and 64", nil, pairs(64), nil},
		{"1 and 64", row{top}, pairs(64), pairs(64)},
		{"64 and themselves", pairs(64), pairs(64), pairs(64)},
		{"64 and what is below each", pairs(64), row{both(full, 1)}, row{both(full, 1)}},
	} {
		got, e := Meet(x.f, x.g)
		told(t, "Meet of "+x.name, got, e, x.want)
		got, e = Meet(x.g, x.f)
		told(t, "Meet, turned about, of "+x.name, got, e, x.want)
	}
}

func TestMeetAtTheLimit(t *testing.T) {
	for _, x := range []struct {
		f, g row
		n    int
	}{
		{singles(0, 8), singles(8, 16), 64}, {singles(0, 7), singles(7, 16), 63}, {singles(0, 4), singles(8, 24), 64}, {pairs(64), row{neg(last)}, 64},
		{singles(0, 5), singles(5, 18), 65}, {singles(0, 8), singles(8, 17), 72}, {pairs(33), row{neg(1), neg(2)}, 66}, {pairs(64), row{neg(1), neg(2)}, 128},
	} {
		for _, two := range [][2]row{{x.f, x.g}, {x.g, x.f}} {
			got, e := Meet(two[0], two[1])
			switch {
			case x.n > 64:
				refused(t, "Meet of too many", got, e, api.ErrBig)
			case e != api.OK || len(got) != x.n || !Right(got):
				t.Errorf("Meet that has %d clauses: %d, %d", x.n, len(got), e)
			}
		}
	}
}

// P3.3.

func TestNot(t *testing.T) {
	for _, x := range []struct {
		name    string
		f, want row
	}{
		{"0", nil, row{top}}, {"the empty row", row{}, row{top}}, {"1", row{top}, nil},
		{"i", row{pos(1)}, row{neg(1)}}, {"-i", row{neg(1)}, row{pos(1)}}, {"the last dimension", row{pos(last)}, row{neg(last)}},
		{"i meet j", row{pos(3)}, row{neg(1), neg(2)}}, {"i join j", row{pos(1), pos(2)}, row{neg(3)}},
		{"i meet -i", row{both(1, 1)}, row{neg(1), pos(1)}}, {"i join -i", row{neg(1), pos(1)}, row{both(1, 1)}},
		{"a clause with both sides", row{both(1, 6)}, row{neg(1), pos(2), pos(4)}},
		{"two clauses that share a literal", row{pos(3), pos(5)}, row{neg(1), neg(6)}},
		{"all dimensions, joined", singles(0, 24), row{neg(full)}},
		{"48 literals, met", row{both(full, full)}, append(slices.Collect(eachOpposite), singles(0, 24)...)},
	} {
		got, e := Not(x.f)
		told(t, "Not of "+x.name, got, e, x.want)
	}
}

// eachOpposite hands out the opposites of all dimensions.
func eachOpposite(yield func(api.Clause) bool) {
	for i := range 24 {
		if !yield(neg(1 << i)) {
			return
		}
	}
}

func TestNotAtTheLimit(t *testing.T) {
	got, e := Not(row{pos(bits(0, 8)), pos(bits(8, 16))})
	if e != api.OK || len(got) != 64 || !Right(got) {
		t.Errorf("Not that has 64 clauses: %d, %d", len(got), e)
	}
	got, e = Not(row{pos(bits(0, 5)), pos(bits(5, 18))})
	refused(t, "Not of 65 clauses", got, e, api.ErrBig)
	got, e = Not(row{pos(bits(0, 8)), pos(bits(8, 17))})
	refused(t, "Not of 72 clauses", got, e, api.ErrBig)
}

func TestNotGoesClauseByClause(t *testing.T) {
	// Behind the first two there are 72 clauses; the third one would leave 16 of them.
	late := row{pos(bits(8, 17)), pos(bits(0, 7) | last), pos(last | 1<<16)}
	got, e := Not(late)
	refused(t, "Not that is too great on the way", got, e, api.ErrBig)
	// Three likewise, with the one that keeps it small ahead.
	early := row{pos(3), pos(1 | bits(2, 9)), pos(2 | bits(9, 17))}
	if !Right(late) || !Right(early) {
		t.Fatal("the formulas of the test may not be")
	}
	got, e = Not(early)
	if e != api.OK || len(got) != 16 {
		t.Errorf("Not that is small on the way: %d, %d", len(got), e)
	}
}

// P3.4.

func TestPut(t *testing.T) {
	for _, x := range []struct {
		name string
		f    row
		i    int
		r    row
		want row
	}{
		{"the example", row{neg(1), pos(1)}, 0, nil, row{top}},
		{"1 in the same", row{neg(1), pos(1)}, 0, row{top}, row{top}},
		{"0 in 0", nil, 0, nil, nil}, {"j in 0", nil, 3, row{pos(2)}, nil}, {"j in 1", row{top}, 3, row{pos(2)}, row{top}},
		{"0 in i", row{pos(1)}, 0, nil, nil}, {"1 in i", row{pos(1)}, 0, row{top}, row{top}}, {"0 in -i", row{neg(1)}, 0, nil, row{top}}, {"1 in -i", row{neg(1)}, 0, row{top}, nil},
		{"j in i", row{pos(1)}, 0, row{pos(2)}, row{pos(2)}}, {"j in -i", row{neg(1)}, 0, row{pos(2)}, row{neg(2)}}, {"-i in i", row{pos(1)}, 0, row{neg(1)}, row{neg(1)}}, {"-i in -i", row{neg(1)}, 0, row{neg(1)}, row{pos(1)}},
		{"i meet j in i", row{pos(1)}, 0, row{pos(3)}, row{pos(3)}}, {"i meet j in -i", row{neg(1)}, 0, row{pos(3)}, row{neg(1), neg(2)}},
		{"0 in i meet -i", row{both(1, 1)}, 0, nil, nil}, {"1 in i meet -i", row{both(1, 1)}, 0, row{top}, nil}, {"j in i meet -i", row{both(1, 1)}, 0, row{pos(2)}, row{both(2, 2)}},
		{"j join k in i meet -i", row{both(1, 1)}, 0, row{pos(2), pos(4)}, row{both(2, 6), both(4, 6)}},
		{"a dimension that is not there", row{pos(1), both(2, 4)}, 3, row{pos(1)}, row{pos(1), both(2, 4)}},
		{"the last dimension", row{both(1, last)}, 23, row{pos(2)}, row{both(1, 2)}},
		{"the rest of a clause stays", row{both(5, 8)}, 2, row{pos(2), pos(16)}, row{both(3, 8), both(17, 8)}},
		{"what becomes needless", row{pos(1), pos(6)}, 1, row{pos(1)}, row{pos(1)}},
		{"what becomes one", row{pos(1), pos(2)}, 0, row{pos(2)}, row{pos(2)}},
		{"0 in one clause of two", row{pos(3), both(4, 2)}, 1, nil, row{pos(4)}},
		{"64 in i", row{pos(1)}, 0, pairs(64), pairs(64)},
		{"i in 64", pairs(64), 23, row{pos(1)}, pairs(64)},
		{"0 in 64", met(pairs(64), pos(last)), 23, nil, nil},
		{"1 in 64", met(pairs(64), pos(last)), 23, row{top}, pairs(64)},
	} {
		got, e := Put(x.f, x.i, x.r)
		told(t, "Put of "+x.name, got, e, x.want)
	}
}

func TestPutOfNoDimension(t *testing.T) {
	for _, i := range sample.NoDimensions() {
		for _, f := range rights() {
			got, e := Put(f, i, row{pos(1)})
			refused(t, "Put of no dimension", got, e, api.ErrArg)
		}
		// ErrArg is named ahead of what is too great.
		got, e := Put(row{neg(1), pos(1)}, i, row{pos(bits(0, 8)), pos(bits(8, 17))})
		refused(t, "Put of no dimension, and what is too great", got, e, api.ErrArg)
	}
}

func TestPutAtTheLimit(t *testing.T) {
	// r's opposite has 72 clauses: it is made only where a clause has -i.
	r := row{pos(bits(0, 8)), pos(bits(8, 17))}
	for _, x := range []struct{ f, want row }{
		{row{pos(1 << 20)}, r},
		{row{neg(1 << 21), pos(1 << 20)}, append(row{neg(1 << 21)}, r...)},
		{row{both(1<<21, 1<<22)}, row{both(1<<21, 1<<22)}},
		{nil, nil},
	} {
		got, e := Put(x.f, 20, r)
		told(t, "Put where no clause has -i", got, e, x.want)
	}
	for _, f := range []row{{neg(1 << 20)}, {both(1<<20, 1<<20)}, {neg(1 << 20), pos(1)}, {pos(1), both(2, 1<<20)}, {neg(1 << 20), pos(1 << 20)}} {
		got, e := Put(f, 20, r)
		refused(t, "Put where a clause has -i", got, e, api.ErrBig)
	}
	// The meet of r and Not of r has 65 clauses and more; each alone has fewer.
	got, e := Put(row{both(last, last)}, 23, append(singles(0, 8), pos(bits(8, 17))))
	refused(t, "Put of r meet Not of r", got, e, api.ErrBig)
	// 64 clauses and one more.
	got, e = Put(row{pos(1 << 22), pos(last)}, 22, pairs(64))
	refused(t, "Put of 65 clauses", got, e, api.ErrBig)
	got, e = Put(row{pos(1 << 22), pos(last)}, 22, pairs(63))
	told(t, "Put of 64 clauses", got, e, append(pairs(63), pos(last)))
}

func TestPutGoesClauseByClause(t *testing.T) {
	// Behind the second clause there are 65; the third one would leave two of them.
	r := met(pairs(64), pos(last))
	got, e := Put(row{pos(1 << 21), pos(1 << 22), pos(last)}, 21, r)
	refused(t, "Put that is too great on the way", got, e, api.ErrBig)
	// The same, with the clause that makes r's needless ahead of the other one.
	got, e = Put(row{neg(1), pos(1 << 21), pos(1 << 22)}, 21, met(pairs(64), neg(1)))
	told(t, "Put that is small on the way", got, e, row{neg(1), pos(1 << 22)})
}

// P3.5.

func TestLift(t *testing.T) {
	const most = math.MaxInt
	for _, x := range []struct {
		name     string
		f        row
		from, by int
		want     row
	}{
		{"0", nil, 0, 5, nil}, {"0, by the most", nil, 0, most, nil}, {"1", row{top}, 0, 5, row{top}}, {"1, by the most", row{top}, 0, most, row{top}},
		{"i meet j", row{pos(3)}, 1, 2, row{pos(9)}}, {"by nothing", row{pos(1), both(2, 4)}, 0, 0, row{pos(1), both(2, 4)}},
		{"all of it", row{pos(1), both(2, 4)}, 0, 3, row{pos(8), both(16, 32)}}, {"some of it", row{pos(1), both(2, 4)}, 1, 3, row{pos(1), both(16, 32)}},
		{"one clause's opposite", row{pos(1), both(2, 4)}, 2, 21, row{pos(1), both(2, last)}}, {"none of it", row{pos(1), both(2, 4)}, 3, most, row{pos(1), both(2, 4)}},
		{"from far away", row{pos(1), both(2, 4)}, most, most, row{pos(1), both(2, 4)}},
		{"to the last dimension", row{neg(1), pos(1)}, 0, 23, row{neg(last), pos(last)}}, {"the last one stays", row{pos(last)}, 23, 0, row{pos(last)}}, {"from behind the last one", row{pos(last)}, 24, 1, row{pos(last)}},
		{"64 clauses", pairs(64), 0, 12, lifted(pairs(64), 12)},
	} {
		got, e := Lift(x.f, x.from, x.by)
		told(t, "Lift of "+x.name, got, e, x.want)
	}
	for _, x := range []struct {
		name     string
		f        row
		from, by int
		want     api.Errno
	}{
		{"out of the dimensions", row{pos(last)}, 0, 1, api.ErrDims}, {"an opposite, out of the dimensions", row{neg(last)}, 23, 1, api.ErrDims}, {"by the most", row{pos(2)}, 1, most, api.ErrDims},
		{"the last clause alone, out of the dimensions", row{pos(1), pos(2), both(4, 8)}, 3, 21, api.ErrDims}, {"the first clause alone", row{neg(last), pos(1)}, 0, 1, api.ErrDims},
		{"i by 24", row{pos(1)}, 0, 24, api.ErrDims},
		{"from below 0", row{pos(1)}, -1, 0, api.ErrArg}, {"by below 0", row{pos(1)}, 0, -1, api.ErrArg}, {"both below 0", row{pos(1)}, math.MinInt, math.MinInt, api.ErrArg},
		{"1 from below 0", row{top}, -1, 0, api.ErrArg}, {"1 by below 0", row{top}, 0, math.MinInt, api.ErrArg}, {"out of the dimensions, from below 0", row{pos(last)}, -1, 1, api.ErrArg},
	} {
		got, e := Lift(x.f, x.from, x.by)
		refused(t, "Lift of "+x.name, got, e, x.want)
	}
	// 0 has no clause that could be refused.
	for _, x := range [][2]int{{-1, 0}, {0, -1}, {math.MinInt, math.MinInt}} {
		got, e := Lift(nil, x[0], x[1])
		told(t, "Lift of 0 from or by below 0", got, e, nil)
	}
}

// lifted tells clauses whose dimensions are all some more.
func lifted(f row, by int) row {
	out := make(row, len(f))
	for k, c := range f {
		out[k] = both(c.Pos<<by, c.Neg<<by)
	}
	return out
}

func TestDims(t *testing.T) {
	for _, x := range []struct {
		f    row
		want uint32
	}{
		{nil, 0}, {row{}, 0}, {row{top}, 0}, {row{pos(1)}, 1}, {row{neg(1)}, 1}, {row{both(1, 1)}, 1}, {row{pos(9)}, 9}, {row{neg(4), both(1, 1), pos(2)}, 7}, {row{both(1, last)}, last | 1}, {row{pos(full)}, full},
		// Rows that are no formulas.
		{row{pos(2), neg(1)}, 3}, {row{top, pos(1), pos(1)}, 1}, {row{pos(1 << 24)}, 0}, {row{both(1<<31|4, 1<<24|2)}, 6}, {row{both(math.MaxUint32, math.MaxUint32)}, full}, {pairs(276), full},
	} {
		if got := Dims(x.f); got != x.want {
			t.Errorf("Dims(%#x) = %#x", x.f, got)
		}
	}
}

// Rule 4: what is handed in stays as it is, and what is handed out is new.

func TestArgumentsStay(t *testing.T) {
	for _, f := range rights() {
		for _, g := range rights() {
			for name, call := range calls() {
				sample.Apart(t, name, call, f, g)
			}
		}
	}
}

// calls tells each call that answers a formula, of two formulas.
func calls() map[string]func(f, g row) (row, api.Errno) {
	return map[string]func(f, g row) (row, api.Errno){
		"Join":    Join,
		"Meet":    Meet,
		"Not":     func(f, g row) (row, api.Errno) { return Not(f) },
		"Put 0":   func(f, g row) (row, api.Errno) { return Put(f, 0, g) },
		"Put 5":   func(f, g row) (row, api.Errno) { return Put(f, 5, g) },
		"Put 23":  func(f, g row) (row, api.Errno) { return Put(f, 23, g) },
		"Lift":    func(f, g row) (row, api.Errno) { return Lift(f, 1, 1) },
		"Lift 0":  func(f, g row) (row, api.Errno) { return Lift(f, 0, 0) },
		"Dims":    func(f, g row) (row, api.Errno) { Dims(f); return nil, api.OK },
		"Right":   func(f, g row) (row, api.Errno) { Right(f); return nil, api.OK },
		"Zero":    func(f, g row) (row, api.Errno) { return Zero(), api.OK },
		"One":     func(f, g row) (row, api.Errno) { return One(), api.OK },
		"Dim":     func(f, g row) (row, api.Errno) { return Dim(7) },
		"Join 00": func(f, g row) (row, api.Errno) { return Join(f, nil) },
	}
}
