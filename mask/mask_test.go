package mask

import (
	"math"
	"slices"
	"testing"

	"hypercube/api"
)

const (
	full  = 1<<24 - 1 // all dimensions
	above = 0xff << 24
)

// sets tells the sets that the tests go over: the edges, each dimension alone and left out, numbers that may not be, and a spread of others.
func sets() []uint32 {
	out := []uint32{0, 1, 13, 49, full, 0x555555, 0xaaaaaa, 1 << 24, 1 << 31, above, math.MaxUint32, 1<<24 | 1, above | 13, above | 1<<23}
	for i := range 24 {
		out = append(out, 1<<i, full&^(1<<i), 1<<i-1)
	}
	s := uint32(1)
	for range 300 {
		s = s*1664525 + 1013904223
		out = append(out, s, s>>8)
	}
	return out
}

// places tells the numbers that stand for dimensions, ahead of them and behind them.
func places() []int {
	out := []int{math.MinInt, math.MinInt + 1, -25, -24, -8, -1, 24, 25, 31, 32, 56, 63, 64, math.MaxInt - 1, math.MaxInt}
	for i := range 24 {
		out = append(out, i)
	}
	return out
}

// members tells a set as a row of bools, told apart from the package's own way.
func members(s uint32) [24]bool {
	var out [24]bool
	for i := range out {
		out[i] = s%2 == 1
		s /= 2
	}
	return out
}

// number is the other way round.
func number(m [24]bool) uint32 {
	s, worth := uint32(0), uint32(1)
	for _, in := range m {
		if in {
			s += worth
		}
		worth *= 2
	}
	return s
}

func inside(i int) bool { return i >= 0 && i <= 23 }

// P1.1.

func TestRight(t *testing.T) {
	for _, x := range []struct {
		s    uint32
		want bool
	}{{0, true}, {1, true}, {13, true}, {1 << 23, true}, {full, true}, {1 << 24, false}, {1<<24 | 1, false}, {1 << 31, false}, {above, false}, {math.MaxUint32, false}} {
		if got := Right(x.s); got != x.want {
			t.Errorf("Right(%#x) = %v", x.s, got)
		}
	}
	for i := 24; i < 32; i++ {
		if Right(1<<i) || Right(full|1<<i) {
			t.Errorf("Right with the bit %d", i)
		}
	}
}

func TestHas(t *testing.T) {
	for _, x := range []struct {
		s    uint32
		i    int
		want bool
	}{
		{13, 0, true}, {13, 1, false}, {13, 2, true}, {13, 3, true}, {13, 4, false},
		{0, 0, false}, {1, 0, true}, {1 << 23, 23, true}, {full &^ (1 << 23), 23, false},
		{1 << 24, 24, false}, {math.MaxUint32, 24, false}, {math.MaxUint32, 31, false}, {math.MaxUint32, 32, false},
		{math.MaxUint32, -1, false}, {math.MaxUint32, math.MinInt, false}, {math.MaxUint32, math.MaxInt, false},
		{math.MaxUint32, 23, true}, {above, 23, false},
	} {
		if got := Has(x.s, x.i); got != x.want {
			t.Errorf("Has(%#x, %d) = %v", x.s, x.i, got)
		}
	}
}

func TestWith(t *testing.T) {
	for _, x := range []struct {
		s    uint32
		i    int
		want uint32
	}{
		{4, 0, 5}, {4, 2, 4}, {0, 0, 1}, {0, 23, 8388608}, {full, 23, full},
		{4, 24, 4}, {4, -1, 4}, {4, 32, 4}, {4, math.MinInt, 4}, {4, math.MaxInt, 4},
		{above | 4, 0, 5}, {above | 4, 2, 4}, {above | 4, 24, 4}, {above | 4, -1, 4},
	} {
		if got := With(x.s, x.i); got != x.want {
			t.Errorf("With(%#x, %d) = %#x", x.s, x.i, got)
		}
	}
}

func TestWithout(t *testing.T) {
	for _, x := range []struct {
		s    uint32
		i    int
		want uint32
	}{
		{5, 2, 1}, {5, 0, 4}, {5, 1, 5}, {1, 0, 0}, {8388608, 23, 0}, {full, 23, 8388607}, {0, 0, 0},
		{5, 24, 5}, {5, -1, 5}, {5, 32, 5}, {5, math.MinInt, 5}, {5, math.MaxInt, 5},
		{above | 5, 2, 1}, {above | 5, 1, 5}, {above | 5, 24, 5}, {above | 5, -1, 5},
	} {
		if got := Without(x.s, x.i); got != x.want {
			t.Errorf("Without(%#x, %d) = %#x", x.s, x.i, got)
		}
	}
}

func TestCount(t *testing.T) {
	for _, x := range []struct {
		s    uint32
		want int
	}{{0, 0}, {1, 1}, {13, 3}, {1 << 23, 1}, {full, 24}, {above, 0}, {math.MaxUint32, 24}, {above | 13, 3}} {
		if got := Count(x.s); got != x.want {
			t.Errorf("Count(%#x) = %d", x.s, got)
		}
	}
}

func TestOneAtATime(t *testing.T) {
	for _, s := range sets() {
		for _, i := range places() {
			with, without, has := members(s), members(s), false
			if inside(i) {
				has = with[i]
				with[i], without[i] = true, false
			}
			if Has(s, i) != has || With(s, i) != number(with) || Without(s, i) != number(without) {
				t.Fatalf("at %#x, %d: Has %v, With %#x, Without %#x", s, i, Has(s, i), With(s, i), Without(s, i))
			}
		}
	}
}

// P1.2.

func TestList(t *testing.T) {
	for _, x := range []struct {
		s    uint32
		want []int
	}{
		{13, []int{0, 2, 3}}, {0, nil}, {1, []int{0}}, {1 << 23, []int{23}}, {1<<23 | 1, []int{0, 23}},
		{above, nil}, {above | 13, []int{0, 2, 3}},
		{math.MaxUint32, []int{0, 1, 2, 3, 4, 5, 6, 7, 8, 9, 10, 11, 12, 13, 14, 15, 16, 17, 18, 19, 20, 21, 22, 23}},
	} {
		if got := List(x.s); !slices.Equal(got, x.want) {
			t.Errorf("List(%#x) = %v", x.s, got)
		}
	}
}

func TestListIsNew(t *testing.T) {
	a := List(13)
	b := List(13)
	a = a[:cap(a)]
	for k := range a {
		a[k] = 99
	}
	if !slices.Equal(b, []int{0, 2, 3}) || !slices.Equal(List(13), []int{0, 2, 3}) {
		t.Error("lists of two calls share memory")
	}
}

func TestFree(t *testing.T) {
	for _, x := range []struct {
		s    uint32
		want int
	}{
		{13, 1}, {0, 0}, {1, 1}, {2, 0}, {full, -1}, {full &^ (1 << 23), 23}, {full &^ 1, 0},
		{above, 0}, {above | 13, 1}, {math.MaxUint32, -1}, {math.MaxUint32 &^ (1 << 23), 23},
	} {
		if got := Free(x.s); got != x.want {
			t.Errorf("Free(%#x) = %d", x.s, got)
		}
	}
}

func TestAllOfASet(t *testing.T) {
	for _, s := range sets() {
		var list []int
		free := -1
		for i, in := range members(s) {
			if in {
				list = append(list, i)
			} else if free == -1 {
				free = i
			}
		}
		if !slices.Equal(List(s), list) || Count(s) != len(list) || Free(s) != free {
			t.Fatalf("at %#x: List %v, Count %d, Free %d", s, List(s), Count(s), Free(s))
		}
	}
}

// P1.3.

func TestLift(t *testing.T) {
	const most = math.MaxInt
	for _, x := range []struct {
		s        uint32
		from, by int
		want     uint32
		e        api.Errno
	}{
		{13, 1, 2, 49, api.OK}, {13, 0, 1, 26, api.OK}, {13, 3, 1, 21, api.OK}, {13, 4, 1, 13, api.OK},
		{13, 0, 0, 13, api.OK}, {13, 1, 0, 13, api.OK}, {0, 0, 0, 0, api.OK}, {full, 0, 0, full, api.OK},
		{1, 0, 23, 8388608, api.OK}, {1, 0, 24, 0, api.ErrDims}, {8388608, 0, 1, 0, api.ErrDims},
		{8388608, 23, 0, 8388608, api.OK}, {8388608, 23, 1, 0, api.ErrDims}, {8388608, 24, 1, 8388608, api.OK},
		{4194304, 22, 1, 8388608, api.OK}, {4194304, 22, 2, 0, api.ErrDims},
		{5, 3, 99, 5, api.OK}, {5, 3, most, 5, api.OK}, {5, 2, most, 0, api.ErrDims}, {1, 0, most, 0, api.ErrDims},
		{8388608, 0, most - 22, 0, api.ErrDims}, {full, most, most, full, api.OK}, {full, 24, most, full, api.OK}, {full, most, 0, full, api.OK},
		{0, 0, most, 0, api.OK}, {1 << 23, 23, most, 0, api.ErrDims},
		{1, -1, 0, 0, api.ErrArg}, {1, 0, -1, 0, api.ErrArg}, {0, -1, -1, 0, api.ErrArg}, {0, math.MinInt, 0, 0, api.ErrArg}, {0, 0, math.MinInt, 0, api.ErrArg},
		{8388608, -1, 1, 0, api.ErrArg}, {8388608, 0, math.MinInt, 0, api.ErrArg}, {full, -1, most, 0, api.ErrArg},
		{above, 0, 1, 0, api.OK}, {above, 0, most, 0, api.OK}, {above | 13, 1, 2, 49, api.OK}, {above | 13, 0, 0, 13, api.OK}, {above | 13, 24, 1, 13, api.OK}, {above | 1<<23, 0, 1, 0, api.ErrDims},
	} {
		if s, e := Lift(x.s, x.from, x.by); s != x.want || e != x.e {
			t.Errorf("Lift(%#x, %d, %d) = %#x, %d", x.s, x.from, x.by, s, e)
		}
	}
}

func TestDrop(t *testing.T) {
	for _, x := range []struct {
		s    uint32
		i    int
		want uint32
	}{
		{49, 1, 25}, {13, 0, 6}, {13, 2, 5}, {13, 3, 5}, {13, 4, 13}, {0, 0, 0}, {1, 0, 0},
		{full, 0, 8388607}, {full, 23, 8388607}, {8388608, 23, 0}, {8388608, 22, 4194304}, {8388608, 0, 4194304},
		{13, 24, 13}, {13, -1, 13}, {13, 32, 13}, {13, math.MinInt, 13}, {13, math.MaxInt, 13},
		{above, 0, 0}, {above, 23, 0}, {above | 49, 1, 25}, {above | 13, 24, 13}, {above | 13, -1, 13},
	} {
		if got := Drop(x.s, x.i); got != x.want {
			t.Errorf("Drop(%#x, %d) = %#x", x.s, x.i, got)
		}
	}
}

// lifted is Lift by a row of bools.
func lifted(s uint32, from, by int) (uint32, api.Errno) {
	if from < 0 || by < 0 {
		return 0, api.ErrArg
	}
	var out [24]bool
	for i, in := range members(s) {
		switch {
		case in && i >= from && (by > 23 || i+by > 23):
			return 0, api.ErrDims
		case in && i >= from:
			out[i+by] = true
		case in:
			out[i] = true
		}
	}
	return number(out), api.OK
}

// dropped is Drop by a row of bools.
func dropped(s uint32, i int) uint32 {
	m := members(s)
	if !inside(i) {
		return number(m)
	}
	copy(m[i:], m[i+1:])
	m[23] = false
	return number(m)
}

func TestMoved(t *testing.T) {
	for _, s := range sets() {
		for _, from := range places() {
			if got, want := Drop(s, from), dropped(s, from); got != want {
				t.Fatalf("Drop(%#x, %d) = %#x, not %#x", s, from, got, want)
			}
			for _, by := range places() {
				got, e := Lift(s, from, by)
				want, f := lifted(s, from, by)
				if got != want || e != f {
					t.Fatalf("Lift(%#x, %d, %d) = %#x, %d, not %#x, %d", s, from, by, got, e, want, f)
				}
			}
		}
	}
}

// P1.4.

func TestDropBringsBack(t *testing.T) {
	told := 0
	for _, s := range sets() {
		for _, i := range places() {
			up, e := Lift(s, i, 1)
			if e != api.OK {
				continue
			}
			told++
			if Has(up, i) {
				t.Fatalf("Lift(%#x, %d, 1) = %#x has %d", s, i, up, i)
			}
			if down := Drop(up, i); down != s&full {
				t.Fatalf("Drop(Lift(%#x, %d, 1), %d) = %#x", s, i, i, down)
			}
		}
	}
	if told == 0 {
		t.Error("no set was lifted")
	}
}

func TestLiftsAddUp(t *testing.T) {
	told := 0
	for _, s := range sets() {
		for _, from := range []int{0, 1, 5, 11, 22, 23, 24, math.MaxInt} {
			for a := range 26 {
				for b := range 26 {
					once, e := Lift(s, from, a+b)
					first, f := Lift(s, from, a)
					twice, g := Lift(first, from, b)
					if f != api.OK {
						twice, g = 0, f
					}
					if once != twice || e != g {
						t.Fatalf("%#x from %d on by %d and %d: %#x, %d at once, %#x, %d one by one", s, from, a, b, once, e, twice, g)
					}
					if e == api.OK {
						told++
					}
				}
			}
		}
	}
	if told == 0 {
		t.Error("no set was lifted")
	}
}
