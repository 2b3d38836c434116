package face

import (
	"slices"
	"testing"

	"hypercube/api"
	"hypercube/sample"
)

// P5.6.

// lawful tells faces on which the laws are held: all on two dimensions, and some of more.
func lawful() []row {
	out := slices.Concat(onTwo(0, 23), rights())
	for _, f := range append(sample.Formulas(14, 1<<23|7), sample.Formulas(7, full)...) {
		out = append(out, able(f))
	}
	return out
}

// entails asks of faces that may be.
func entails(t *testing.T, f, g row) bool {
	t.Helper()
	is, e := Entails(f, g)
	if e != api.OK {
		t.Fatalf("Entails(%#x, %#x): %d", f, g, e)
	}
	return is
}

func TestEntailsIsAnOrder(t *testing.T) {
	some := lawful()
	for _, f := range some {
		if !entails(t, f, f) || !entails(t, nil, f) || !entails(t, f, always) {
			t.Errorf("%#x does not entail itself or always, or never does not entail it", f)
		}
		for _, g := range some {
			if !entails(t, f, g) {
				continue
			}
			if entails(t, g, f) && !slices.Equal(f, g) {
				t.Errorf("%#x and %#x entail each other", f, g)
			}
			for _, h := range some {
				if entails(t, g, h) && !entails(t, f, h) {
					t.Errorf("%#x entails %#x, and that %#x, which the first does not", f, g, h)
				}
			}
		}
	}
}

func TestJoinIsLeastAboveAndMeetGreatestBelow(t *testing.T) {
	some := lawful()
	for _, f := range some {
		for _, g := range some {
			join, e := Join(f, g)
			meet, e2 := Meet(f, g)
			for _, h := range some {
				if e == api.OK && entails(t, join, h) != (entails(t, f, h) && entails(t, g, h)) {
					t.Errorf("Join(%#x, %#x) = %#x is not least above, by %#x", f, g, join, h)
				}
				if e2 == api.OK && entails(t, h, meet) != (entails(t, h, f) && entails(t, h, g)) {
					t.Errorf("Meet(%#x, %#x) = %#x is not greatest below, by %#x", f, g, meet, h)
				}
			}
			if e == api.OK && (!entails(t, f, join) || !entails(t, g, join)) || e2 == api.OK && (!entails(t, meet, f) || !entails(t, meet, g)) {
				t.Errorf("%#x and %#x: %#x is not above both, or %#x not below", f, g, join, meet)
			}
		}
	}
}

// restricted tells Restrict of a face that may be by a clause that may be.
func restricted(t *testing.T, f row, c api.Clause) row {
	t.Helper()
	got, e := Restrict(f, c)
	if e != api.OK || !Right(got) {
		t.Fatalf("Restrict(%#x, %#x) = %#x, %d", f, c, got, e)
	}
	return got
}

func TestRestrictEntailsTheSame(t *testing.T) {
	some := lawful()
	for _, c := range append(points(0, 1, 23), pos(full), both(bits(0, 12), bits(12, 24))) {
		for _, f := range some {
			rest := restricted(t, f, c)
			with, e := Meet(f, row{c})
			with2, e2 := Meet(rest, row{c})
			if e != api.OK || e2 != api.OK || !slices.Equal(with, with2) {
				t.Errorf("%#x and %#x: %#x, but Restrict says %#x", f, c, with, with2)
			}
			for _, g := range some {
				if entails(t, with, g) != entails(t, rest, restricted(t, g, c)) {
					t.Errorf("%#x and %#x entail %#x, or Restrict says so, but not both", f, c, g)
				}
			}
			if holds, e := Holds(f, c); e != api.OK || holds != slices.Equal(rest, always) {
				t.Errorf("%#x is so where %#x is: %v, but Restrict says %#x", f, c, holds, rest)
			}
		}
	}
}

func TestAllIsTheGreatestWithoutADimension(t *testing.T) {
	some := lawful()
	for _, i := range []int{0, 1, 5, 23} {
		for _, f := range some {
			all, e := All(f, i)
			if e != api.OK || !Right(all) || has(all, i) {
				t.Fatalf("All(%#x, %d) = %#x, %d", f, i, all, e)
			}
			for _, h := range some {
				if !has(h, i) && entails(t, h, all) != entails(t, h, f) {
					t.Errorf("%#x entails %#x, or All of it for %d, but not both", h, f, i)
				}
			}
		}
	}
}

// has tells whether a face has a dimension or its opposite.
func has(f row, i int) bool {
	return slices.ContainsFunc(f, func(c api.Clause) bool { return (c.Pos|c.Neg)>>i&1 == 1 })
}
