package clause

import (
	"math"
	"slices"
	"testing"

	"hypercube/api"
	"hypercube/sample"
)

const (
	full  = sample.Full
	above = 0xff << 24
	last  = sample.Last
)

var top = api.Clause{}

// Short names for what the tests write most.
var (
	pos, neg, both = sample.Pos, sample.Neg, sample.Both
	pairs, spread  = sample.Pairs, sample.Spread
)

// literals tells a clause as a set of numbers: i+1 for the dimension i, -i-1 for its opposite.
func literals(c api.Clause) map[int]bool {
	out := map[int]bool{}
	for i := range 24 {
		if c.Pos/(1<<i)%2 == 1 {
			out[i+1] = true
		}
		if c.Neg/(1<<i)%2 == 1 {
			out[-i-1] = true
		}
	}
	return out
}

// within tells whether all of a are in b.
func within(a, b map[int]bool) bool {
	for k := range a {
		if !b[k] {
			return false
		}
	}
	return true
}

// small tells all clauses on the dimensions 0 and 1, and on 22 and 23.
func small() []api.Clause {
	var out []api.Clause
	for p := range uint32(4) {
		for n := range uint32(4) {
			out = append(out, both(p, n), both(p<<22, n<<22))
		}
	}
	return out
}

// right tells the clauses that may be that the tests go over.
func right() []api.Clause {
	out := append(small(), pos(full), neg(full), both(full, full), both(last, 1), both(1, last))
	s := spread(7, 80)
	for k := 0; k < len(s); k += 2 {
		out = append(out, both(s[k], s[k+1]), both(s[k]&s[k+1], 0), both(s[k]&15, s[k+1]&15))
	}
	return out
}

// wrong tells clauses that may not be.
func wrong() []api.Clause {
	out := []api.Clause{both(1<<24, 1), both(1, 1<<24), both(above, above), both(math.MaxUint32, math.MaxUint32)}
	for i := 24; i < 32; i++ {
		out = append(out, pos(1<<i), neg(1<<i), pos(full|1<<i), neg(full|1<<i), both(1<<i|3, 4), both(3, 1<<i|4))
	}
	return out
}

func sign(less, same bool) int {
	switch {
	case less:
		return -1
	case same:
		return 0
	}
	return 1
}

// P2.1.

func TestRight(t *testing.T) {
	for _, c := range right() {
		if !Right(c) {
			t.Errorf("Right(%#x) = false", c)
		}
	}
	for _, c := range wrong() {
		if Right(c) {
			t.Errorf("Right(%#x) = true", c)
		}
	}
}

func TestClash(t *testing.T) {
	for _, x := range []struct {
		c    api.Clause
		want bool
	}{
		{top, false}, {pos(1), false}, {neg(1), false}, {both(1, 1), true}, {both(1, 2), false}, {both(5, 6), true}, {both(last, last), true},
		{pos(full), false}, {neg(full), false}, {both(full, 1), true}, {both(full, last), true}, {both(full&^last, last), false},
		{both(1<<24, 1<<24), false}, {both(above, above), false}, {both(above|1, above|1), true}, {both(above|1, above|2), false},
	} {
		if got := Clash(x.c); got != x.want {
			t.Errorf("Clash(%#x) = %v", x.c, got)
		}
	}
	for _, c := range append(right(), wrong()...) {
		l := literals(c)
		want := false
		for k := range l {
			want = want || l[-k]
		}
		if got := Clash(c); got != want {
			t.Errorf("Clash(%#x) = %v", c, got)
		}
	}
}

func TestMeet(t *testing.T) {
	for _, x := range []struct{ a, b, want api.Clause }{
		{top, top, top}, {top, pos(1), pos(1)}, {neg(1), top, neg(1)}, {pos(1), pos(2), pos(3)}, {pos(1), neg(1), both(1, 1)},
		{both(1, 4), both(2, 4), both(3, 4)}, {both(last, 1), both(1, last), both(last|1, last|1)}, {pos(full), neg(full), both(full, full)},
		{pos(1 << 24), pos(1), pos(1)}, {neg(above | 2), both(1, 1<<31), both(1, 2)},
	} {
		if got := Meet(x.a, x.b); got != x.want {
			t.Errorf("Meet(%#x, %#x) = %#x", x.a, x.b, got)
		}
	}
}

func TestBelow(t *testing.T) {
	for _, x := range []struct {
		a, b api.Clause
		want bool
	}{
		{top, top, true}, {pos(1), top, true}, {top, pos(1), false}, {neg(1), top, true}, {top, neg(1), false},
		{pos(3), pos(1), true}, {pos(1), pos(3), false}, {neg(3), neg(1), true}, {neg(1), neg(3), false},
		{pos(1), neg(1), false}, {neg(1), pos(1), false}, {both(1, 1), pos(1), true}, {both(1, 1), neg(1), true}, {pos(1), both(1, 1), false}, {neg(1), both(1, 1), false},
		{both(3, 4), both(1, 4), true}, {both(3, 4), both(1, 8), false}, {both(3, 4), both(4, 4), false}, {both(3, 4), both(3, 4), true},
		{both(full, full), both(last, last), true}, {both(full, full&^last), both(last, last), false},
		{top, pos(1 << 24), true}, {pos(1), both(above|1, above), true}, {pos(above), pos(1), false}, {both(above, above), both(1<<24, 1), false},
	} {
		if got := Below(x.a, x.b); got != x.want {
			t.Errorf("Below(%#x, %#x) = %v", x.a, x.b, got)
		}
	}
}

func TestCmp(t *testing.T) {
	for _, x := range []struct {
		a, b api.Clause
		want int
	}{
		{top, top, 0}, {top, pos(1), -1}, {pos(1), top, 1}, {top, neg(1), -1}, {neg(1), top, 1},
		{neg(full), pos(1), -1}, {pos(1), neg(full), 1}, {both(1, 9), both(2, 0), -1}, {both(2, 0), both(1, 9), 1},
		{both(2, 1), both(2, 3), -1}, {both(2, 3), both(2, 1), 1}, {both(2, 3), both(2, 3), 0},
		{pos(last), pos(last - 1), 1}, {neg(last), neg(last - 1), 1},
		{pos(1), pos(1 << 31), -1}, {neg(math.MaxUint32), neg(1), 1}, {pos(1 << 24), pos(1 << 24), 0},
	} {
		if got := Cmp(x.a, x.b); got != x.want {
			t.Errorf("Cmp(%#x, %#x) = %d", x.a, x.b, got)
		}
	}
}

func TestTwoOfThem(t *testing.T) {
	all := append(right(), wrong()...)
	for _, a := range all {
		la := literals(a)
		for _, b := range all {
			lb := literals(b)
			if got := Below(a, b); got != within(lb, la) {
				t.Fatalf("Below(%#x, %#x) = %v", a, b, got)
			}
			if got, want := Cmp(a, b), sign(a.Pos < b.Pos || a.Pos == b.Pos && a.Neg < b.Neg, a == b); got != want {
				t.Fatalf("Cmp(%#x, %#x) = %d", a, b, got)
			}
			m := Meet(a, b)
			lm := literals(m)
			if !Right(m) || !within(la, lm) || !within(lb, lm) {
				t.Fatalf("Meet(%#x, %#x) = %#x", a, b, m)
			}
			for k := range lm {
				if !la[k] && !lb[k] {
					t.Fatalf("Meet(%#x, %#x) = %#x", a, b, m)
				}
			}
		}
	}
}

// P2.2.

func backwards(l []api.Clause) []api.Clause {
	out := slices.Clone(l)
	slices.Reverse(out)
	return out
}

func TestLeast(t *testing.T) {
	for _, x := range []struct {
		name    string
		l, want []api.Clause
	}{
		{"nil", nil, nil},
		{"the empty row", []api.Clause{}, nil},
		{"the example", []api.Clause{pos(3), pos(1), both(2, 4), pos(1)}, []api.Clause{pos(1), both(2, 4)}},
		{"the top", []api.Clause{top}, []api.Clause{top}},
		{"the top and one below it", []api.Clause{top, pos(1)}, []api.Clause{top}},
		{"the top behind those below it", []api.Clause{pos(1), neg(1), both(1, 1), both(full, full), top}, []api.Clause{top}},
		{"one twice", []api.Clause{both(2, 4), both(2, 4)}, []api.Clause{both(2, 4)}},
		{"the top twice", []api.Clause{top, top}, []api.Clause{top}},
		{"one that clashes", []api.Clause{both(1, 1)}, []api.Clause{both(1, 1)}},
		{"one that clashes, below one that does not", []api.Clause{both(1, 1), neg(1)}, []api.Clause{neg(1)}},
		{"one that clashes, beside others", []api.Clause{pos(2), both(1, 1), neg(4)}, []api.Clause{neg(4), both(1, 1), pos(2)}},
		{"a dimension and its opposite", []api.Clause{pos(1), neg(1)}, []api.Clause{neg(1), pos(1)}},
		{"by Pos first", []api.Clause{both(2, 1), both(1, 8), both(1, 4)}, []api.Clause{both(1, 4), both(1, 8), both(2, 1)}},
		{"a row, one below the other", []api.Clause{pos(7), pos(3), pos(1)}, []api.Clause{pos(1)}},
		{"the last dimension", []api.Clause{both(last, last), pos(last), neg(last)}, []api.Clause{neg(last), pos(last)}},
		{"all literals", []api.Clause{both(full, full)}, []api.Clause{both(full, full)}},
	} {
		for _, l := range [][]api.Clause{x.l, backwards(x.l)} {
			if got, e := Least(l); e != api.OK || !slices.Equal(got, x.want) {
				t.Errorf("%s: Least(%#x) = %#x, %d", x.name, l, got, e)
			}
		}
	}
}

func TestLeastRefusesWrongClauses(t *testing.T) {
	for _, w := range wrong() {
		for _, l := range [][]api.Clause{
			{w}, {w, w}, {w, pos(1)}, {top, w}, {pos(1), neg(2), w},
			append(pairs(65), w), append([]api.Clause{w}, pairs(65)...), append(pairs(64), w),
		} {
			if got, e := Least(l); e != api.ErrArg || len(got) != 0 {
				t.Errorf("Least of %d clauses with %#x: %#x, %d", len(l), w, got, e)
			}
		}
	}
}

func TestLeastAtTheLimit(t *testing.T) {
	for _, n := range []int{63, 64} {
		l := pairs(n)
		for _, row := range [][]api.Clause{l, backwards(l), append(backwards(l), l...), append(belowAll(l), l...)} {
			if got, e := Least(row); e != api.OK || !slices.Equal(got, l) {
				t.Errorf("Least of %d clauses of which %d are needed: %d, %d", len(row), n, len(got), e)
			}
		}
	}
	for _, n := range []int{65, 66, 276} {
		l := pairs(n)
		for _, row := range [][]api.Clause{l, backwards(l), append(backwards(l), l...), append(belowAll(l), l...)} {
			if got, e := Least(row); e != api.ErrBig || len(got) != 0 {
				t.Errorf("Least of %d clauses of which %d are needed: %d, %d", len(row), n, len(got), e)
			}
		}
		if got, e := Least(append(l, top)); e != api.OK || !slices.Equal(got, []api.Clause{top}) {
			t.Errorf("Least of %d clauses and the top: %#x, %d", n, got, e)
		}
	}
	// 65 clauses, of which one is below another: 64 are left.
	l := append(pairs(64), pos(3|4))
	if got, e := Least(l); e != api.OK || !slices.Equal(got, pairs(64)) {
		t.Errorf("Least of 65 clauses, of which one is needless: %d, %d", len(got), e)
	}
}

// belowAll tells clauses that are below those of l, and none of those.
func belowAll(l []api.Clause) []api.Clause {
	var out []api.Clause
	for _, c := range l {
		out = append(out, Meet(c, neg(1)), Meet(c, neg(last)), Meet(c, neg(full)))
	}
	return out
}

func TestLeastOfManyThatAreNeedless(t *testing.T) {
	l := []api.Clause{neg(last)}
	for _, s := range spread(3, 100000) {
		l = append(l, both(s, last))
	}
	if got, e := Least(l); e != api.OK || !slices.Equal(got, []api.Clause{neg(last)}) {
		t.Errorf("Least of %d clauses: %d, %d", len(l), len(got), e)
	}
}

// rows tells rows of clauses on few dimensions, of many lengths.
func rows() [][]api.Clause {
	var out [][]api.Clause
	for seed := range uint32(400) {
		n := int(seed % 40)
		s := spread(seed, 2*n)
		row := make([]api.Clause, n)
		for k := range row {
			bits := uint32(1)<<(seed%5+1) - 1
			row[k] = both(s[2*k]&bits, s[2*k+1]&bits)
		}
		out = append(out, row)
	}
	return append(out, right())
}

// plainLeast is Least by the words of the document: each is held against all.
func plainLeast(l []api.Clause) []api.Clause {
	var out []api.Clause
	for _, c := range l {
		needed := !slices.Contains(out, c)
		for _, d := range l {
			if c != d && within(literals(d), literals(c)) {
				needed = false
			}
		}
		if needed {
			out = append(out, c)
		}
	}
	for k := range out {
		for j := k; j > 0 && (out[j].Pos < out[j-1].Pos || out[j].Pos == out[j-1].Pos && out[j].Neg < out[j-1].Neg); j-- {
			out[j], out[j-1] = out[j-1], out[j]
		}
	}
	return out
}

func TestLeastByTheWords(t *testing.T) {
	for _, l := range rows() {
		want, wantErr := plainLeast(l), api.OK
		if len(want) > 64 {
			want, wantErr = nil, api.ErrBig
		}
		if got, e := Least(l); e != wantErr || !slices.Equal(got, want) {
			t.Fatalf("Least(%#x) = %#x, %d, not %#x", l, got, e, want)
		}
	}
}

func TestLeastLeavesItsArgument(t *testing.T) {
	room := []api.Clause{pos(3), pos(1), both(2, 4), pos(1), pos(9), neg(9)}
	want := slices.Clone(room)
	got, e := Least(room[:4])
	if e != api.OK || !slices.Equal(room, want) {
		t.Errorf("Least changed its row, or the room behind it: %#x, %d", room, e)
	}
	got = got[:cap(got)]
	for k := range got {
		got[k] = pos(99)
	}
	if !slices.Equal(room, want) {
		t.Errorf("Least handed out its row's memory: %#x", room)
	}
	if again, e := Least(room[:4]); e != api.OK || !slices.Equal(again, []api.Clause{pos(1), both(2, 4)}) {
		t.Errorf("Least kept what was changed: %#x, %d", again, e)
	}
	one := []api.Clause{pos(1)}
	if got, _ := Least(one); len(got) == 1 {
		got[0] = neg(1)
	}
	if one[0] != pos(1) {
		t.Error("Least handed out a row that needs nothing")
	}
}

// P2.3.

func TestLift(t *testing.T) {
	const most = math.MaxInt
	for _, x := range []struct {
		c        api.Clause
		from, by int
		want     api.Clause
		e        api.Errno
	}{
		{both(5, 2), 1, 1, both(9, 4), api.OK}, {both(5, 2), 0, 2, both(20, 8), api.OK}, {both(5, 2), 0, 0, both(5, 2), api.OK},
		{both(5, 2), 2, 1, both(9, 2), api.OK}, {both(5, 2), 3, 9, both(5, 2), api.OK}, {both(5, 2), 3, most, both(5, 2), api.OK}, {both(5, 2), most, most, both(5, 2), api.OK},
		{both(1, 1), 0, 1, both(2, 2), api.OK}, {both(full, full), 24, 1, both(full, full), api.OK}, {both(full, full), 0, 0, both(full, full), api.OK},
		{top, 0, 0, top, api.OK}, {top, 0, most, top, api.OK}, {both(1, 2), 0, 22, both(1<<22, last), api.OK},
		{both(1, 2), 0, 23, top, api.ErrDims}, {both(2, 1), 0, 23, top, api.ErrDims}, {pos(last), 0, 1, top, api.ErrDims}, {neg(last), 23, 1, top, api.ErrDims},
		{both(1, last), 1, 1, top, api.ErrDims}, {both(last, 1), 1, 1, top, api.ErrDims}, {neg(1), 0, most, top, api.ErrDims}, {pos(1), 0, most, top, api.ErrDims},
		{top, -1, 0, top, api.ErrArg}, {top, 0, -1, top, api.ErrArg}, {both(5, 2), -1, -1, top, api.ErrArg},
		{both(5, 2), math.MinInt, 1, top, api.ErrArg}, {both(5, 2), 1, math.MinInt, top, api.ErrArg}, {pos(last), -1, 1, top, api.ErrArg}, {neg(last), 0, -1, top, api.ErrArg},
	} {
		if c, e := Lift(x.c, x.from, x.by); c != x.want || e != x.e {
			t.Errorf("Lift(%#x, %d, %d) = %#x, %d", x.c, x.from, x.by, c, e)
		}
	}
}

func TestLiftRefusesWrongClauses(t *testing.T) {
	for _, w := range wrong() {
		for _, x := range []struct{ from, by int }{{0, 0}, {0, 1}, {24, 0}, {24, 1}, {math.MaxInt, math.MaxInt}, {0, math.MaxInt}, {-1, 0}, {0, -1}} {
			if c, e := Lift(w, x.from, x.by); c != top || e != api.ErrArg {
				t.Errorf("Lift(%#x, %d, %d) = %#x, %d", w, x.from, x.by, c, e)
			}
		}
	}
}

func TestLiftByTheWords(t *testing.T) {
	told := 0
	for _, c := range right() {
		for _, from := range []int{0, 1, 2, 5, 22, 23, 24, math.MaxInt} {
			for _, by := range []int{0, 1, 2, 8, 21, 22, 23, 24, math.MaxInt} {
				want, wantErr := liftedLiterals(c, from, by)
				got, e := Lift(c, from, by)
				if e != wantErr || e != api.OK && got != top {
					t.Fatalf("Lift(%#x, %d, %d) = %#x, %d", c, from, by, got, e)
				}
				if e != api.OK {
					continue
				}
				told++
				l := literals(got)
				if !Right(got) || !within(l, want) || !within(want, l) {
					t.Fatalf("Lift(%#x, %d, %d) = %#x", c, from, by, got)
				}
			}
		}
	}
	if told == 0 {
		t.Error("no clause was lifted")
	}
}

// liftedLiterals lifts a clause literal by literal.
func liftedLiterals(c api.Clause, from, by int) (map[int]bool, api.Errno) {
	out := map[int]bool{}
	for k := range literals(c) {
		i, sign := k-1, 1
		if k < 0 {
			i, sign = -k-1, -1
		}
		if i >= from {
			if by > 23-i {
				return nil, api.ErrDims
			}
			i += by
		}
		out[sign*(i+1)] = true
	}
	return out, api.OK
}

// P2.4.

func TestLeastCovers(t *testing.T) {
	for _, l := range rows() {
		least, e := Least(l)
		if e != api.OK {
			continue
		}
		for k, a := range least {
			for j, b := range least {
				if k != j && Below(a, b) {
					t.Fatalf("Least(%#x) = %#x: %#x is below %#x", l, least, a, b)
				}
			}
		}
		for _, c := range l {
			if !slices.ContainsFunc(least, func(b api.Clause) bool { return Below(c, b) }) {
				t.Fatalf("Least(%#x) = %#x: %#x is below none", l, least, c)
			}
		}
		for _, c := range least {
			if !slices.Contains(l, c) {
				t.Fatalf("Least(%#x) = %#x: %#x comes from nowhere", l, least, c)
			}
		}
	}
}

func TestLeastHangsOnNoOrder(t *testing.T) {
	for k, l := range rows() {
		want, wantErr := Least(l)
		twice := append(slices.Clone(l), l...)
		turned := append(slices.Clone(l[len(l)/3:]), l[:len(l)/3]...)
		mixed := slices.Clone(l)
		for j, s := range spread(uint32(k), len(l)) {
			other := int(s) % len(l)
			mixed[j], mixed[other] = mixed[other], mixed[j]
		}
		for _, row := range [][]api.Clause{backwards(l), twice, turned, mixed, append(backwards(mixed), turned...)} {
			if got, e := Least(row); e != wantErr || !slices.Equal(got, want) {
				t.Fatalf("Least(%#x) = %#x, %d, not as of %#x", row, got, e, l)
			}
		}
		if wantErr != api.OK {
			continue
		}
		if again, e := Least(want); e != api.OK || !slices.Equal(again, want) {
			t.Fatalf("Least(%#x) = %#x, %d", want, again, e)
		}
	}
}

func TestMeetIsTheGreatestBelowBoth(t *testing.T) {
	all := right()
	for _, a := range all {
		for _, b := range all {
			m := Meet(a, b)
			if !Below(m, a) || !Below(m, b) {
				t.Fatalf("Meet(%#x, %#x) = %#x is not below both", a, b, m)
			}
			for _, c := range all {
				if (Below(c, a) && Below(c, b)) != Below(c, m) {
					t.Fatalf("Meet(%#x, %#x) = %#x, held against %#x", a, b, m, c)
				}
			}
		}
	}
}
