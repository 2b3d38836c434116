package show

import (
	"strings"

	"hypercube/api"
	"hypercube/tree"
)

// maker makes trees that may be, by numbers that are given.
type maker struct {
	numbers []uint32
	used    int
}

// choice tells one of n; once all numbers are used, the first.
func (m *maker) choice(n int) int {
	m.used++
	if m.used > len(m.numbers) {
		return 0
	}
	return int(m.numbers[m.used-1]>>3) % n
}

func (m *maker) name() string {
	return []string{"x", "i", "U", "f_1", "hcomp", "_", "Z9"}[m.choice(7)]
}

func (m *maker) names(n int) []string {
	var out []string
	for range n {
		out = append(out, m.name())
	}
	return out
}

// term makes a term with about so many parts.
func (m *maker) term(size int) api.Tree {
	if size <= 1 {
		return nm(m.name())
	}
	first := 1 + m.choice(size)
	switch kind := tree.Lam + m.choice(tree.Box-tree.Lam+1); kind {
	case tree.Lam, tree.PLam:
		return api.Tree{Kind: kind, Names: m.names(1 + m.choice(3)), Kids: []api.Tree{m.term(size - 1)}}
	case tree.Pi, tree.Sigma:
		return api.Tree{Kind: kind, Names: m.names(m.choice(2)), Kids: []api.Tree{m.term(first), m.term(size - first)}}
	case tree.At:
		return node(kind, m.term(first), m.dim(size-first))
	case tree.Box:
		return m.box(size)
	default:
		return node(kind, m.term(first), m.term(size-first))
	}
}

func (m *maker) box(size int) api.Tree {
	out := node(tree.Box)
	for range m.choice(4) {
		f := node(tree.Face)
		for range m.choice(4) {
			f.Kids = append(f.Kids, api.Tree{Kind: tree.Eq, Name: m.name(), Names: []string{[]string{"0", "1"}[m.choice(2)]}})
		}
		one := node(tree.Elem, f)
		if m.choice(3) > 0 {
			one.Kids = append(one.Kids, m.term(size/3))
		}
		out.Kids = append(out.Kids, one)
	}
	return out
}

func (m *maker) dim(size int) api.Tree {
	if size <= 1 {
		if n := m.choice(4); n < 2 {
			return digit([]string{"0", "1"}[n])
		}
		return nm(m.name())
	}
	first := 1 + m.choice(size)
	switch m.choice(3) {
	case 0:
		return not(m.dim(size - 1))
	case 1:
		return and(m.dim(first), m.dim(size-first))
	}
	return or(m.dim(first), m.dim(size-first))
}

func (m *maker) file(n int) []api.Tree {
	var out []api.Tree
	for range n {
		out = append(out, decl(m.name(), m.term(m.choice(8)), m.term(m.choice(8))))
	}
	return out
}

// scattered tells a text with other gaps: what is let by may be of many kinds.
func (m *maker) scattered(tokens []string) string {
	var out strings.Builder
	for _, s := range tokens {
		out.WriteString([]string{" ", "  ", "\n", "\t", "-- c ) ;\n", "\r\n "}[m.choice(6)])
		out.WriteString(s)
	}
	return out.String()
}
