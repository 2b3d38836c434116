package sample

import (
	"slices"

	"hypercube/api"
)

// Roomy tells a copy of a term, each list of which has others behind it.
func Roomy(t api.Term) api.Term {
	t.R = withRoom(t.R)[:len(t.R)]
	t.Kids = roomyKids(t.Kids)
	var sys []api.Branch
	for _, b := range t.Sys {
		sys = append(sys, api.Branch{Face: withRoom(b.Face)[:len(b.Face)], Kids: roomyKids(b.Kids)})
	}
	t.Sys = append(sys, api.Branch{Face: withRoom(nil)}, api.Branch{})[:len(sys)]
	return t
}

func roomyKids(l []api.Term) []api.Term {
	var out []api.Term
	for _, t := range l {
		out = append(out, Roomy(t))
	}
	return append(out, api.Term{Name: "spare"}, api.Term{N: -99})[:len(l)]
}

// Whole tells a copy of a term with all the spare room of its lists.
func Whole(t api.Term) api.Term {
	t.R = slices.Clone(t.R[:cap(t.R)])
	t.Kids = wholeKids(t.Kids)
	t.Sys = slices.Clone(t.Sys[:cap(t.Sys)])
	for k, b := range t.Sys {
		t.Sys[k] = api.Branch{Face: slices.Clone(b.Face[:cap(b.Face)]), Kids: wholeKids(b.Kids)}
	}
	return t
}

func wholeKids(l []api.Term) []api.Term {
	out := slices.Clone(l[:cap(l)])
	for k := range out {
		out[k] = Whole(out[k])
	}
	return out
}

// Spoil writes over all lists of some terms, their spare room too, and tells how often one was written over twice.
func Spoil(l []api.Term) int {
	twice := 0
	for k := range l {
		twice += spoilRow(l[k].R) + Spoil(l[k].Kids)
		for _, b := range l[k].Sys {
			twice += spoilRow(b.Face) + Spoil(b.Kids)
		}
		sys := l[k].Sys[:cap(l[k].Sys)]
		for n, b := range sys {
			if len(b.Face) == 7 {
				twice++
			}
			sys[n] = api.Branch{Face: make([]api.Clause, 7)}
		}
	}
	l = l[:cap(l)]
	for k := range l {
		if l[k].Name == "spoilt" {
			twice++
		}
		l[k] = api.Term{Name: "spoilt"}
	}
	return twice
}

func spoilRow(row []api.Clause) int {
	twice := 0
	row = row[:cap(row)]
	for k := range row {
		if row[k].Pos == 1<<30 {
			twice++
		}
		row[k] = Pos(1 << 30)
	}
	return twice
}
