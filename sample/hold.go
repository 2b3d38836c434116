package sample

import (
	"slices"

	"hypercube/api"
)

// Test is what a test tells faults by.
type Test interface {
	Helper()
	Errorf(form string, parts ...any)
}

// Told holds an answer against what is wanted.
func Told(t Test, name string, got []api.Clause, e api.Errno, want []api.Clause) {
	t.Helper()
	if e != api.OK || !slices.Equal(got, want) {
		t.Errorf("%s = %#x, %d, not %#x", name, got, e, want)
	}
}

// Refused holds an answer against a refusal.
func Refused(t Test, name string, got []api.Clause, e, want api.Errno) {
	t.Helper()
	if e != want || len(got) != 0 {
		t.Errorf("%s = %d clauses, %d, not refused with %d", name, len(got), e, want)
	}
}

// Apart holds a call of two rows against the rule that what is handed in stays as it is, and what is handed out is new.
func Apart(t Test, name string, call func(f, g []api.Clause) ([]api.Clause, api.Errno), f, g []api.Clause) {
	t.Helper()
	roomF, roomG := withRoom(f), withRoom(g)
	wantF, wantG := slices.Clone(roomF), slices.Clone(roomG)
	got, e := call(roomF[:len(f)], roomG[:len(g)])
	mark := Both(77, 78)
	got = got[:cap(got)]
	for k := range got {
		got[k] = mark
	}
	if !slices.Equal(roomF, wantF) || !slices.Equal(roomG, wantG) {
		t.Errorf("%s(%#x, %#x) changed what it was given, or handed it out", name, f, g)
	}
	again, e2 := call(f, g)
	if e2 != e || slices.Contains(again, mark) {
		t.Errorf("%s(%#x, %#x) kept what it handed out", name, f, g)
	}
}

// withRoom tells a row with others behind it, so that spare room is seen.
func withRoom(f []api.Clause) []api.Clause {
	return append(slices.Clone(f), Pos(99), Neg(98), Both(97, 96), Pos(95))
}
