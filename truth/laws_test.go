package truth

import (
	"slices"
	"testing"

	"hypercube/api"
	"hypercube/formula"
	"hypercube/sample"
)

// P4.4, and P4.2 and P4.3 against another road to the same answers.

// A value is two bits that Meet and Join know nothing of: 2 has the first, 3 the second, 1 both. Its opposite turns
// each bit about and changes their places.
type pair struct{ first, second bool }

func asPair(v int) pair { return pair{v == 1 || v == 2, v == 1 || v == 3} }

func (p pair) number() int {
	switch p {
	case pair{true, true}:
		return 1
	case pair{true, false}:
		return 2
	case pair{false, true}:
		return 3
	}
	return 0
}

// holds tells a formula's truth where the truth of a dimension and that of its opposite are told apart.
func holds(f row, isOne, isZero func(i int) bool) bool {
	return slices.ContainsFunc(f, func(c api.Clause) bool {
		for i := range 24 {
			if c.Pos>>i&1 == 1 && !isOne(i) || c.Neg>>i&1 == 1 && !isZero(i) {
				return false
			}
		}
		return true
	})
}

// byBits tells a formula's value by the truth of each bit.
func byBits(f row, at []int) int {
	of := func(i int) pair {
		if i < len(at) {
			return asPair(at[i])
		}
		return pair{}
	}
	first, second := func(i int) bool { return of(i).first }, func(i int) bool { return of(i).second }
	notFirst, notSecond := func(i int) bool { return !of(i).first }, func(i int) bool { return !of(i).second }
	return pair{holds(f, first, notSecond), holds(f, second, notFirst)}.number()
}

// rows tells all rows of n values, by the numbers from the last one on.
func rows(n int) [][]int {
	if n == 0 {
		return [][]int{nil}
	}
	var out [][]int
	for v := range 4 {
		for _, r := range rows(n - 1) {
			out = append(out, append(slices.Clone(r), v))
		}
	}
	return out
}

func TestEvalByBits(t *testing.T) {
	for _, dims := range []uint32{3, 31, 1<<23 | 6, full} {
		for k, f := range sample.Formulas(200, dims) {
			s := spread(uint32(k), 24)
			at := make([]int, k%26)
			for i := range at {
				at[i] = int(s[i%24] >> 7 & 3)
			}
			if got, e := Eval(f, at); e != api.OK || got != byBits(f, at) {
				t.Fatalf("Eval(%#x) at %v = %d, %d", f, at, got, e)
			}
		}
	}
}

// firstUnlike tells the first row at which two formulas on the dimensions up to one have unlike values.
func firstUnlike(f, g row, all [][]int) []int {
	k := slices.IndexFunc(all, func(at []int) bool { return byBits(f, at) != byBits(g, at) })
	if k < 0 {
		return nil
	}
	return all[k]
}

func TestTellByBits(t *testing.T) {
	for _, n := range []int{1, 2, 3, 4, 5} {
		all := rows(n)
		alike := 0
		some := sample.Formulas(24, 1<<n-1)
		for _, f := range some {
			for _, g := range some {
				length := 1
				for s := formula.Dims(f) | formula.Dims(g); s > 1; s >>= 1 {
					length++
				}
				want := firstUnlike(f, g, all)
				if len(want) == 0 {
					alike++
				} else {
					want = want[:length] // the rest, of dimensions that neither has, is 0
				}
				if told(t, "two by bits", f, g, want); t.Failed() {
					t.Fatalf("of %#x and %#x", f, g)
				}
			}
		}
		if alike < 24 || alike > 24*24/2 {
			t.Errorf("the spread of the test is poor: %d of %d alike", alike, 24*24)
		}
	}
}

func TestSameValuesAreSameFormulas(t *testing.T) {
	for _, d := range [][2]int{{0, 1}, {4, 23}} {
		all := sample.OnTwo(d[0], d[1])
		if len(all) != 168 {
			t.Fatalf("%d formulas on two dimensions", len(all))
		}
		for _, f := range all {
			for _, g := range all {
				if got, e := Same(f, g); e != api.OK || got != slices.Equal(f, g) {
					t.Fatalf("Same(%#x, %#x) = %v, %d", f, g, got, e)
				}
			}
		}
	}
	some := slices.Concat(sample.Formulas(60, 31), sample.Formulas(20, 1<<23|1<<12|7))
	for _, f := range some {
		for _, g := range some {
			got, e := Same(f, g)
			if e == api.OK && got != slices.Equal(f, g) {
				t.Fatalf("Same(%#x, %#x) = %v", f, g, got)
			}
		}
	}
}

func TestTellsRowTellsThemApart(t *testing.T) {
	some := slices.Concat(sample.Formulas(60, 31), sample.OnTwo(0, 3))
	for _, f := range some {
		for _, g := range some[:70] {
			at, e := Tell(f, g)
			if e != api.OK {
				t.Fatalf("Tell(%#x, %#x) is refused with %d", f, g, e)
			}
			if a, b := evalOf(t, f, at), evalOf(t, g, at); (a != b) != (len(at) > 0) {
				t.Fatalf("Tell(%#x, %#x) = %v, where they are %d and %d", f, g, at, a, b)
			}
		}
	}
}

// evalOf is Eval of a formula that may be.
func evalOf(t *testing.T, f row, at []int) int {
	t.Helper()
	v, e := Eval(f, at)
	if e != api.OK {
		t.Fatalf("Eval(%#x) is refused with %d", f, e)
	}
	return v
}

// agree holds the value of what a call made against what is wanted; a call may be refused as too great.
func agree(t *testing.T, name string, made row, e api.Errno, at []int, want int) {
	t.Helper()
	if e == api.OK && evalOf(t, made, at) != want {
		t.Fatalf("%s = %#x, whose value at %v is not %d", name, made, at, want)
	}
}

// valuesAgree holds what chapter 3 makes of two formulas against what is made of their values.
func valuesAgree(t *testing.T, f, g row, i int, all [][]int) {
	t.Helper()
	not, notErr := formula.Not(f)
	join, joinErr := formula.Join(f, g)
	meet, meetErr := formula.Meet(f, g)
	put, putErr := formula.Put(f, i, g)
	for _, at := range all {
		a, b := evalOf(t, f, at), evalOf(t, g, at)
		agree(t, "Not", not, notErr, at, Not(a))
		agree(t, "Join", join, joinErr, at, Join(a, b))
		agree(t, "Meet", meet, meetErr, at, Meet(a, b))
		with := slices.Clone(at)
		with[i] = b
		agree(t, "Put", put, putErr, at, evalOf(t, f, with))
	}
}

func TestValuesOfWhatIsMade(t *testing.T) {
	zero, one := formula.Zero(), formula.One()
	if evalOf(t, zero, nil) != 0 || evalOf(t, one, nil) != 1 {
		t.Error("0 and 1")
	}
	for i := range 24 {
		f, _ := formula.Dim(i)
		for v := range 4 {
			at := noughts(24, map[int]int{i: v})
			agree(t, "Dim", f, api.OK, at, v)
		}
	}
	two, three := sample.OnTwo(0, 1), sample.Formulas(30, 7)
	for k, f := range two {
		for n := k % 4; n < len(two); n += 4 {
			valuesAgree(t, f, two[n], n/4%2, rows(2))
		}
	}
	for k, f := range three {
		for n, g := range three {
			valuesAgree(t, f, g, (k+n)%3, rows(3))
		}
	}
}
