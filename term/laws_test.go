package term

import (
	"math"
	"reflect"
	"testing"

	"hypercube/api"
	"hypercube/sample"
)

// terms tells terms that may be in 4 variables and 5 dimensions, of all kinds, one for each seed.
func terms(seeds uint32) []api.Term {
	var out []api.Term
	for seed := range seeds {
		g := sample.Grow(seed)
		out = append(out, g.Term(4, 5, g.Below(40)))
	}
	return out
}

// P10.2, by another road.

func TestTermsThatMayBe(t *testing.T) {
	seen := map[int]int{}
	for seed := range uint32(20000) {
		g := sample.Grow(seed)
		vars, dims := g.Below(5), []int{0, 1, 5, 22, 23, 24}[g.Below(6)]
		x := g.Term(vars, dims, g.Below(60))
		if Right(x, vars, dims) != api.OK || Formed(x) != api.OK || !sample.MayBe(x, vars, dims) {
			t.Fatalf("%v may not be in %d and %d", x, vars, dims)
		}
		seen[x.Kind]++
	}
	for kind := api.Var; kind <= api.The; kind++ {
		if seen[kind] < 50 {
			t.Errorf("of the kind %d there are %d only", kind, seen[kind])
		}
	}
}

// A term in fewer variables and dimensions, or with one thing changed, is held against what the tests' own rule tells.
func TestTermsThatMayNotBe(t *testing.T) {
	right, wrong, formed := 0, 0, 0
	for seed := range uint32(300) {
		g := sample.Grow(seed)
		x := g.Term(3, 4, g.Below(12))
		for _, y := range append(changes(x), x) {
			for k := range 6 {
				vars, dims := k%3+1, []int{0, 2, 4, 20, 23, 24}[k]
				got, want := Right(y, vars, dims), sample.MayBe(y, vars, dims)
				if got != api.OK && got != api.ErrTerm || (got == api.OK) != want {
					t.Fatalf("Right(%v, %d, %d) = %d", y, vars, dims, got)
				}
				if want {
					right++
				} else {
					wrong++
				}
			}
			got, want := Formed(y), sample.MayBeFormed(y)
			if got != api.OK && got != api.ErrTerm || (got == api.OK) != want {
				t.Fatalf("Formed(%v) = %d", y, got)
			}
			if want {
				formed++
			}
		}
	}
	if right < 1000 || wrong < 1000 || formed < 500 {
		t.Errorf("too few to tell: %d, %d, %d", right, wrong, formed)
	}
}

// P10.5.

func TestLaws(t *testing.T) {
	for seed := range uint32(6000) {
		g := sample.Grow(seed)
		vars, dims := g.Below(6), g.Below(14)
		x := g.Term(vars, dims, g.Below(50))
		if !Same(Copy(x), x) || Size(Copy(x)) != Size(x) || Depth(Copy(x)) != Depth(x) || Right(Copy(x), vars, dims) != api.OK {
			t.Fatalf("a copy of %v is not the same", x)
		}
		if Formed(x) != api.OK {
			t.Fatalf("%v is not formed", x)
		}
		for more := range 4 {
			if Right(x, vars+more, dims) != api.OK || Right(x, vars+1000*more, dims+more) != api.OK || Right(x, math.MaxInt, dims) != api.OK {
				t.Fatalf("%v may not be in more", x)
			}
			for _, n := range []int{vars + more, vars + 7*more, math.MaxInt - more} {
				if Uses(x, n) {
					t.Fatalf("%v uses %d of %d", x, n, vars)
				}
			}
		}
		if Dims(x)>>dims != 0 {
			t.Fatalf("%v has %#x of %d dimensions", x, Dims(x), dims)
		}
	}
}

// A term may be in just so many as it uses: what is beyond the last one that it uses is not needed, that one is.
func TestJustSoManyAsItUses(t *testing.T) {
	for _, x := range terms(4000) {
		vars, dims := 0, 0
		for n := range 4 {
			if Uses(x, n) {
				vars = n + 1
			}
		}
		for i := range 5 {
			if Dims(x)>>i&1 == 1 {
				dims = i + 1
			}
		}
		if Right(x, vars, dims) != api.OK || vars > 0 && Right(x, vars-1, dims) != api.ErrTerm || dims > 0 && Right(x, vars, dims-1) != api.ErrTerm {
			t.Fatalf("%v: not just %d and %d", x, vars, dims)
		}
	}
}

// The rules that hold everywhere: what is handed in stays as it is, its spare room too, and what lies there is not read.
func TestMemory(t *testing.T) {
	for _, x := range terms(3000) {
		roomy := sample.Roomy(x)
		before := sample.Whole(roomy)
		same := Size(roomy) == Size(x) && Depth(roomy) == Depth(x) && Right(roomy, 4, 5) == api.OK && Right(roomy, 0, 0) == Right(x, 0, 0) && Formed(roomy) == api.OK && Dims(roomy) == Dims(x) && Same(roomy, x) && Same(x, roomy)
		for n := range 5 {
			same = same && Uses(roomy, n) == Uses(x, n)
		}
		if !same {
			t.Fatalf("%v: what lies in the spare room is read", x)
		}
		if !reflect.DeepEqual(before, sample.Whole(roomy)) {
			t.Fatalf("%v is changed", x)
		}
	}
}
