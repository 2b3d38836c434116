package truth

import (
	"math"
	"slices"
	"testing"

	"hypercube/api"
	"hypercube/sample"
)

const (
	full = sample.Full
	last = sample.Last
)

// row is what a formula is written as.
type row = []api.Clause

var unit = api.Clause{}

// Short names for what the tests write most.
var (
	pos, neg, both = sample.Pos, sample.Neg, sample.Both
	pairs, spread  = sample.Pairs, sample.Spread
)

// odd tells numbers that are none of the four values, and those that are, with the value that each counts as.
func odd() map[int]int {
	return map[int]int{
		0: 0, 1: 1, 2: 2, 3: 3, 4: 0, 5: 1, 6: 2, 7: 3, 8: 0, 1001: 1, -1: 3, -2: 2, -3: 1, -4: 0, -5: 3, -8: 0, -1001: 3,
		math.MaxInt: 3, math.MaxInt - 1: 2, math.MinInt: 0, math.MinInt + 1: 1, math.MaxInt32 + 2: 1, 1 << 32: 0,
	}
}

// isBelow tells whether a value is below another, or the same.
func isBelow(a, b int) bool { return a == 0 || b == 1 || a == b }

// P4.1.

func TestAllPairs(t *testing.T) {
	// By hand, in the order of the numbers: rows by the first value.
	for k, want := range []struct{ meet, join int }{
		{0, 0}, {0, 1}, {0, 2}, {0, 3},
		{0, 1}, {1, 1}, {2, 1}, {3, 1},
		{0, 2}, {2, 1}, {2, 2}, {0, 1},
		{0, 3}, {3, 1}, {0, 1}, {3, 3},
	} {
		a, b := k/4, k%4
		if got := Meet(a, b); got != want.meet {
			t.Errorf("Meet(%d, %d) = %d", a, b, got)
		}
		if got := Join(a, b); got != want.join {
			t.Errorf("Join(%d, %d) = %d", a, b, got)
		}
	}
}

func TestMeetAndJoinByTheOrder(t *testing.T) {
	for a := range 4 {
		for b := range 4 {
			m, j := Meet(a, b), Join(a, b)
			for c := range 4 {
				if got, want := isBelow(c, m), isBelow(c, a) && isBelow(c, b); got != want {
					t.Errorf("Meet(%d, %d) = %d: it is above %d: %v", a, b, m, c, got)
				}
				if got, want := isBelow(j, c), isBelow(a, c) && isBelow(b, c); got != want {
					t.Errorf("Join(%d, %d) = %d: it is below %d: %v", a, b, j, c, got)
				}
			}
		}
	}
}

func TestNot(t *testing.T) {
	for a, want := range []int{1, 0, 2, 3} {
		if got := Not(a); got != want {
			t.Errorf("Not(%d) = %d", a, got)
		}
	}
	for a := range 4 {
		for b := range 4 {
			if isBelow(a, b) != isBelow(Not(b), Not(a)) {
				t.Errorf("Not does not turn the order of %d and %d about", a, b)
			}
		}
	}
}

func TestOtherNumbers(t *testing.T) {
	for a, v := range odd() {
		if got := Not(a); got != Not(v) {
			t.Errorf("Not(%d) = %d", a, got)
		}
		for b, w := range odd() {
			if got := Meet(a, b); got != Meet(v, w) {
				t.Errorf("Meet(%d, %d) = %d", a, b, got)
			}
			if got := Join(a, b); got != Join(v, w) {
				t.Errorf("Join(%d, %d) = %d", a, b, got)
			}
		}
		// What is answered is one of the four values itself.
		if Meet(a, 1) != v || Meet(1, a) != v || Join(a, 0) != v || Join(0, a) != v || Not(Not(a)) != v {
			t.Errorf("%d does not count as %d", a, v)
		}
	}
}

// P4.2.

func TestEval(t *testing.T) {
	long := slices.Repeat([]int{0}, 24)
	long[23] = 2
	for _, x := range []struct {
		name string
		f    row
		at   []int
		want int
	}{
		{"0", nil, []int{1, 2, 3}, 0}, {"0, as an empty row", row{}, nil, 0}, {"1", row{unit}, []int{0, 2}, 1}, {"1 at nothing", row{unit}, nil, 1},
		{"i at 0", row{pos(1)}, []int{0}, 0}, {"i at 1", row{pos(1)}, []int{1}, 1}, {"i at 2", row{pos(1)}, []int{2}, 2}, {"i at 3", row{pos(1)}, []int{3}, 3},
		{"-i at 0", row{neg(1)}, []int{0}, 1}, {"-i at 1", row{neg(1)}, []int{1}, 0}, {"-i at 2", row{neg(1)}, []int{2}, 2}, {"-i at 3", row{neg(1)}, []int{3}, 3},
		{"i meet -i at 0", row{both(1, 1)}, []int{0}, 0}, {"i meet -i at 1", row{both(1, 1)}, []int{1}, 0}, {"i meet -i at 2", row{both(1, 1)}, []int{2}, 2}, {"i meet -i at 3", row{both(1, 1)}, []int{3}, 3},
		{"i join -i at 0", row{neg(1), pos(1)}, []int{0}, 1}, {"i join -i at 1", row{neg(1), pos(1)}, []int{1}, 1}, {"i join -i at 2", row{neg(1), pos(1)}, []int{2}, 2}, {"i join -i at 3", row{neg(1), pos(1)}, []int{3}, 3},
		{"i meet j at 2 3", row{pos(3)}, []int{2, 3}, 0}, {"i join j at 2 3", row{pos(1), pos(2)}, []int{2, 3}, 1}, {"i meet j at 1 3", row{pos(3)}, []int{1, 3}, 3}, {"i join j at 0 2", row{pos(1), pos(2)}, []int{0, 2}, 2},
		{"i meet -j", row{both(1, 2)}, []int{3, 0}, 3}, {"a clause of each kind", row{neg(4), both(1, 1), pos(2)}, []int{2, 3, 1}, 1}, {"two of them", row{neg(4), both(1, 1), pos(2)}, []int{2, 2, 1}, 2},
		{"i at an empty row", row{pos(1)}, []int{}, 0}, {"-i at no row", row{neg(1)}, nil, 1},
		{"j at a row that has i alone", row{pos(2)}, []int{1}, 0}, {"-j at such a row", row{neg(2)}, []int{1}, 1}, {"i join j at such a row", row{pos(1), pos(2)}, []int{3}, 3}, {"i meet j at such a row", row{pos(3)}, []int{1}, 0}, {"i meet -j at such a row", row{both(1, 2)}, []int{2}, 2},
		{"the last dimension", row{pos(last)}, long, 2}, {"the opposite of the last", row{neg(last)}, long, 2}, {"the last at a row that ends ahead of it", row{pos(last)}, long[:23], 0}, {"its opposite there", row{neg(last)}, long[:23], 1},
		{"all dimensions at 1, met", row{pos(full)}, slices.Repeat([]int{1}, 24), 1}, {"all opposites at nothing, met", row{neg(full)}, nil, 1}, {"all, and their opposites, at 3", row{both(full, full)}, slices.Repeat([]int{3}, 24), 3},
		{"i at a row with values of no dimension", row{pos(1)}, slices.Concat([]int{3}, slices.Repeat([]int{1}, 1000)), 3},
		{"64 clauses, the last of them", pairs(64), []int{0, 0, 0, 0, 0, 0, 0, 0, 2, 0, 0, 1}, 2},
	} {
		if got, e := Eval(x.f, x.at); got != x.want || e != api.OK {
			t.Errorf("Eval of %s = %d, %d, not %d", x.name, got, e, x.want)
		}
	}
}

func TestEvalAtOtherNumbers(t *testing.T) {
	for a, v := range odd() {
		for _, x := range []struct {
			f    row
			want int
		}{{row{pos(1)}, v}, {row{neg(1)}, Not(v)}, {row{both(1, 1)}, Meet(v, Not(v))}, {row{unit}, 1}, {nil, 0}} {
			if got, e := Eval(x.f, []int{a}); got != x.want || e != api.OK {
				t.Errorf("Eval(%#x) at %d = %d, %d", x.f, a, got, e)
			}
		}
	}
}

func TestEvalOfWrongFormulas(t *testing.T) {
	for _, w := range sample.WrongFormulas() {
		for _, at := range [][]int{nil, {1}, slices.Repeat([]int{1}, 24)} {
			if got, e := Eval(w, at); got != 0 || e != api.ErrArg {
				t.Errorf("Eval(%#x) = %d, %d", w, got, e)
			}
		}
	}
}

// P4.3.

// told holds what Tell and Same answer against what is wanted; nothing is wanted where two are the same.
func told(t *testing.T, name string, f, g row, want []int) {
	t.Helper()
	if got, e := Tell(f, g); e != api.OK || !slices.Equal(got, want) {
		t.Errorf("Tell of %s = %v, %d, not %v", name, got, e, want)
	}
	if got, e := Same(f, g); e != api.OK || got != (len(want) == 0) {
		t.Errorf("Same of %s = %v, %d", name, got, e)
	}
}

// refused holds what both answer against a refusal.
func refused(t *testing.T, name string, f, g row, want api.Errno) {
	t.Helper()
	if got, e := Tell(f, g); e != want || len(got) != 0 {
		t.Errorf("Tell of %s = %v, %d, not refused with %d", name, got, e, want)
	}
	if got, e := Same(f, g); e != want || got {
		t.Errorf("Same of %s = %v, %d, not refused with %d", name, got, e, want)
	}
}

// noughts tells a row of n values that are 0, but for those that are named.
func noughts(n int, but map[int]int) []int {
	out := make([]int, n)
	for i, v := range but {
		out[i] = v
	}
	return out
}

func TestTell(t *testing.T) {
	for _, x := range []struct {
		name string
		f, g row
		want []int
	}{
		{"0 and 0", nil, row{}, nil}, {"1 and 1", row{unit}, row{unit}, nil}, {"0 and 1", nil, row{unit}, []int{0}},
		{"i and i", row{pos(1)}, row{pos(1)}, nil}, {"i and 0", row{pos(1)}, nil, []int{1}}, {"i and 1", row{pos(1)}, row{unit}, []int{0}}, {"i and -i", row{pos(1)}, row{neg(1)}, []int{0}},
		{"the example: i and j", row{pos(1)}, row{pos(2)}, []int{1, 0}}, {"the example: i join -i and 1", row{neg(1), pos(1)}, row{unit}, []int{2}}, {"i meet -i and 0", row{both(1, 1)}, nil, []int{2}},
		{"j and 0", row{pos(2)}, nil, []int{0, 1}}, {"i and i meet j", row{pos(1)}, row{pos(3)}, []int{1, 0}}, {"j and i meet j", row{pos(2)}, row{pos(3)}, []int{0, 1}}, {"i join j and 1", row{pos(1), pos(2)}, row{unit}, []int{0, 0}},
		{"i meet j and 0", row{pos(3)}, nil, []int{1, 1}}, {"i join j and i", row{pos(1), pos(2)}, row{pos(1)}, []int{0, 1}},
		{"i meet -i meet j and i meet -i", row{both(3, 1)}, row{both(1, 1)}, []int{2, 0}}, {"i meet -i, and j meet -j, met, and 0", row{both(3, 3)}, nil, []int{2, 2}},
		{"i meet -i and j meet -j", row{both(1, 1)}, row{both(2, 2)}, []int{2, 0}}, {"i meet -i meet j, and 0", row{both(3, 1)}, nil, []int{2, 1}},
		{"i meet -i, and what is joined of it met with j and with -j", row{both(1, 1)}, row{both(1, 3), both(3, 1)}, []int{3, 2}},
		{"a dimension that neither has between", row{pos(1)}, row{pos(4)}, []int{1, 0, 0}}, {"dimensions that neither has ahead", row{pos(16)}, nil, []int{0, 0, 0, 0, 1}},
		{"the last dimension and 0", row{pos(last)}, nil, noughts(24, map[int]int{23: 1})}, {"the last dimension and the first", row{pos(last)}, row{pos(1)}, noughts(24, map[int]int{0: 1})}, {"the last dimension and its opposite", row{pos(last)}, row{neg(last)}, noughts(24, nil)},
		{"the last dimension and itself", row{both(last, 1)}, row{both(last, 1)}, nil}, {"the last dimension, joined with its opposite, and 1", row{neg(last), pos(last)}, row{unit}, noughts(24, map[int]int{23: 2})},
		{"5 dimensions in one", row{both(31, 31)}, nil, []int{2, 2, 2, 2, 2}}, {"5 dimensions, far apart", row{pos(last | 1<<17 | 1<<11 | 1<<5 | 1)}, nil, noughts(24, map[int]int{0: 1, 5: 1, 11: 1, 17: 1, 23: 1})},
		{"5 dimensions of two", row{pos(7)}, row{pos(24)}, []int{1, 1, 1, 0, 0}}, {"5 dimensions, the same", row{both(31, 31)}, row{both(31, 31)}, nil}, {"5 dimensions that both have", row{both(31, 31)}, row{both(31, 15)}, []int{2, 2, 2, 2, 1}},
		{"10 clauses on 5 dimensions", pairs(10), pairs(9), []int{0, 0, 0, 1, 1}},
	} {
		told(t, x.name, x.f, x.g, x.want)
		told(t, x.name+", turned about", x.g, x.f, x.want)
	}
}

func TestTellOfManyDimensions(t *testing.T) {
	for _, x := range []struct {
		name string
		f, g row
	}{
		{"6 in one, and 0", row{pos(63)}, nil}, {"6 in one, and 1", row{pos(63)}, row{unit}}, {"6 and the same", row{pos(63)}, row{pos(63)}}, {"6 opposites", row{neg(63)}, nil},
		{"6 by both sides of one", row{both(7, 56)}, nil}, {"5 and one more", row{pos(31)}, row{pos(32)}}, {"5 and the last", row{pos(31)}, row{neg(last)}}, {"3 and 3 others", row{pos(7)}, row{neg(56)}},
		{"6 in three clauses", row{pos(3), pos(12), pos(48)}, nil}, {"all", row{both(full, full)}, nil}, {"all, and the same", row{both(full, full)}, row{both(full, full)}}, {"64 clauses", pairs(64), pairs(64)},
	} {
		refused(t, x.name, x.f, x.g, api.ErrBig)
		refused(t, x.name+", turned about", x.g, x.f, api.ErrBig)
	}
}

func TestTellOfWrongFormulas(t *testing.T) {
	for _, w := range sample.WrongFormulas() {
		for _, f := range []row{nil, {unit}, {pos(1)}, {neg(1), pos(1)}, {pos(63)}, pairs(64)} {
			refused(t, "a wrong formula and another", w, f, api.ErrArg)
			refused(t, "another and a wrong formula", f, w, api.ErrArg)
		}
		refused(t, "a wrong formula and itself", w, w, api.ErrArg)
	}
}

// What counts everywhere: nothing that is handed in changes, nothing is kept.

func TestArgumentsStay(t *testing.T) {
	spare := func(f row) row { return append(slices.Grow(slices.Clone(f), 8), slices.Repeat(row{both(9, 9)}, 8)...) }
	f, g := spare(row{neg(1), pos(1)}), spare(row{both(16, 1), pos(18)})
	at := []int{7, -1, 2, 9, 9}
	wasF, wasG, wasAt := slices.Clone(f), slices.Clone(g), slices.Clone(at)
	if v, e := Eval(f[:2], at[:1]); v != 3 || e != api.OK {
		t.Errorf("Eval = %d, %d", v, e)
	}
	first, _ := Tell(f[:2], g[:2])
	was := slices.Clone(first)
	second, _ := Tell(f[:2], g[:2])
	for k := range second[:cap(second)] {
		second[:cap(second)][k] = 77
	}
	if !slices.Equal(first, was) || len(first) != 5 {
		t.Error("two answers share memory")
	}
	if third, _ := Tell(f[:2], g[:2]); !slices.Equal(third, was) {
		t.Error("an answer was kept")
	}
	if _, e := Same(f[:2], g[:2]); e != api.OK {
		t.Errorf("Same is refused with %d", e)
	}
	if !slices.Equal(f, wasF) || !slices.Equal(g, wasG) || !slices.Equal(at, wasAt) {
		t.Error("an argument has changed")
	}
}
