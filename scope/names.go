package scope

import "slices"

// noName stands for a variable that no name means: it is no name of a tree.
const noName = ""

// names are those of all variables, or of all dimensions: how many there are, and which ones have a name, counted from the outermost on.
type names struct {
	count int
	have  map[string][]int
}

// innermostFirst tells names that are handed in so.
func innermostFirst(l []string) names {
	n := names{have: make(map[string][]int, len(l))}
	for _, name := range slices.Backward(l) {
		n.bind(name)
	}
	return n
}

// bind adds more, the innermost last.
func (n *names) bind(l ...string) {
	for _, name := range l {
		n.have[name] = append(n.have[name], n.count)
		n.count++
	}
}

// release takes out the innermost ones, which are of these names.
func (n *names) release(l ...string) {
	for _, name := range l {
		had := n.have[name]
		n.have[name] = had[:len(had)-1]
	}
	n.count -= len(l)
}

// find tells the innermost one of a name, counted from the innermost on.
func (n *names) find(name string) (int, bool) {
	had := n.have[name]
	if len(had) == 0 {
		return 0, false
	}
	return n.count - 1 - had[len(had)-1], true
}

// asSet tells which names there are.
func asSet(l []string) map[string]struct{} {
	out := make(map[string]struct{}, len(l))
	for _, name := range l {
		out[name] = struct{}{}
	}
	return out
}
