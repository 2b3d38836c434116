package step

import (
	"math"
	"reflect"
	"slices"
	"testing"

	"hypercube/api"
	"hypercube/sample"
)

// mains tells the place of the main Kid, of the kinds that have one.
func mains() map[int]int {
	return map[int]int{api.App: 0, api.Fst: 0, api.Snd: 0, api.PApp: 0, api.Unglue: 0, api.HComp: 0, api.Transp: 0, api.CircleEl: 3, api.SuspEl: 4}
}

// mainIs holds Main's answer against what is wanted.
func mainIs(t *testing.T, x api.Term, want int) {
	t.Helper()
	if got := Main(x); got != want {
		t.Errorf("Main(%s) = %d, not %d", short(x), got, want)
	}
}

// P21.2, of each kind.
func TestMain(t *testing.T) {
	for branches := range 3 {
		for _, x := range sample.InEachPlace(branches, func(byte) api.Term { return circle }, own, off) {
			want, there := mains()[x.Kind]
			if !there {
				want = -1
			}
			mainIs(t, x, want)
			mainIs(t, sample.Plain(x), want)
		}
	}
}

// A node that has fewer Kids than its kind has none; of one that has more, the first one is the first one, and the last one the last one.
func TestMainOfOtherNumbers(t *testing.T) {
	for kind, f := range sample.Forms() {
		place, there := mains()[kind]
		for n := range 9 {
			want := -1
			switch {
			case !there || n < len(f.Kids):
			case place == 0:
				want = 0
			default:
				want = n - 1
			}
			mainIs(t, of(kind, slices.Repeat([]api.Term{base}, n)...), want)
			mainIs(t, of(kind, slices.Repeat([]api.Term{{}}, n)...), want)
		}
	}
	// What lies behind a list is no Kid.
	for kind := range mains() {
		mainIs(t, api.Term{Kind: kind, Kids: slices.Repeat([]api.Term{base}, 9)[:0]}, -1)
	}
	mainIs(t, api.Term{Kind: api.CircleEl, Kids: slices.Repeat([]api.Term{base}, 9)[:4]}, 3)
}

// Kinds that are none have none.
func TestMainOfNoKind(t *testing.T) {
	for _, kind := range []int{0, -1, 29, 30, 256 + api.App, 1<<32 + api.App, math.MaxInt, math.MinInt} {
		for n := range 6 {
			mainIs(t, of(kind, slices.Repeat([]api.Term{base}, n)...), -1)
		}
	}
}

// Only the number of Kids counts, not what they are, nor what else there is.
func TestMainOfNoTerms(t *testing.T) {
	mainIs(t, of(api.App, api.Term{}, v(-1)), 0)
	mainIs(t, api.Term{Kind: api.Fst, N: 7, Name: "x", R: own, Kids: []api.Term{base}, Sys: []api.Branch{{}}}, 0)
	mainIs(t, of(api.Fst, times(100000, base, fst)), 0)
	mainIs(t, of(api.SuspEl, times(300, base, func(x api.Term) api.Term { return pair(x, x) }), base, base, base, base), 4)
}

// What is handed in stays as it is, its spare room too.
func TestMainAndMemory(t *testing.T) {
	for _, x := range sample.InEachPlace(2, func(byte) api.Term { return loop(1) }, own, off) {
		y := sample.Roomy(x)
		before := sample.Whole(y)
		if got := Main(y); got != Main(x) || !reflect.DeepEqual(before, sample.Whole(y)) {
			t.Errorf("Main(%s) = %d, not %d; or it changed it", short(x), got, Main(x))
		}
	}
}
