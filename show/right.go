package show

import (
	"hypercube/api"
	"hypercube/tree"
)

// rule tells whether a tree is what some lines of the grammar make. The number is how many parts stand one in the other, up to that tree and with it.
type rule func(t api.Tree, deep int) bool

// fits asks a rule, unless the tree is too far in: so trees that have themselves as a part come to an end, too.
func fits(t api.Tree, is rule, deep int) bool { return deep <= api.MaxText && is(t, deep) }

// are tells whether there is a part for each rule, and just those.
func are(parts []api.Tree, deep int, rules ...rule) bool {
	if len(parts) != len(rules) {
		return false
	}
	for k, is := range rules {
		if !fits(parts[k], is, deep+1) {
			return false
		}
	}
	return true
}

// all tells whether all parts, however many, go by one rule.
func all(parts []api.Tree, deep int, is rule) bool {
	for _, t := range parts {
		if !fits(t, is, deep+1) {
			return false
		}
	}
	return true
}

// isDecl asks each of its parts as a tree of its own: the Decl around them does not count.
func isDecl(t api.Tree) bool {
	return t.Kind == tree.Decl && isName(t.Name) && len(t.Names) == 0 && are(t.Kids, 0, isTerm, isTerm)
}

func isTerm(t api.Tree, deep int) bool {
	switch t.Kind {
	case tree.Name:
		return isNameTree(t)
	case tree.Lam, tree.PLam:
		return t.Name == "" && len(t.Names) > 0 && areNames(t.Names) && are(t.Kids, deep, isTerm)
	case tree.Pi, tree.Sigma:
		return t.Name == "" && len(t.Names) < 2 && areNames(t.Names) && are(t.Kids, deep, isTerm, isTerm)
	case tree.App, tree.Pair, tree.Ann:
		return isNameless(t) && are(t.Kids, deep, isTerm, isTerm)
	case tree.At:
		return isNameless(t) && are(t.Kids, deep, isTerm, isDim)
	case tree.Box:
		return isNameless(t) && all(t.Kids, deep, isElem)
	}
	return false
}

func isElem(t api.Tree, deep int) bool {
	return t.Kind == tree.Elem && isNameless(t) && (are(t.Kids, deep, isFace) || are(t.Kids, deep, isFace, isTerm))
}

func isFace(t api.Tree, deep int) bool {
	return t.Kind == tree.Face && isNameless(t) && all(t.Kids, deep, isEq)
}

func isEq(t api.Tree, _ int) bool {
	return t.Kind == tree.Eq && isName(t.Name) && len(t.Names) == 1 && isDigit(t.Names[0]) && len(t.Kids) == 0
}

func isDim(t api.Tree, deep int) bool {
	switch t.Kind {
	case tree.Name:
		return isNameTree(t)
	case tree.Digit:
		return isDigit(t.Name) && len(t.Names) == 0 && len(t.Kids) == 0
	case tree.Not:
		return isNameless(t) && are(t.Kids, deep, isDim)
	case tree.And, tree.Or:
		return isNameless(t) && are(t.Kids, deep, isDim, isDim)
	}
	return false
}

// isNameTree is asked of a Name, which is a term as well as a dim.
func isNameTree(t api.Tree) bool { return isName(t.Name) && len(t.Names) == 0 && len(t.Kids) == 0 }

func isNameless(t api.Tree) bool { return t.Name == "" && len(t.Names) == 0 }

func areNames(l []string) bool {
	for _, s := range l {
		if !isName(s) {
			return false
		}
	}
	return true
}

// isName tells whether a text is a name of chapter 6, however long it is.
func isName(s string) bool {
	for k := range len(s) {
		if !isLetter(s[k]) && (k == 0 || s[k] < '0' || s[k] > '9') {
			return false
		}
	}
	return s != ""
}

func isLetter(b byte) bool { return b >= 'a' && b <= 'z' || b >= 'A' && b <= 'Z' || b == '_' }

// isDigit tells whether a text is a digit of the grammar, of which there are two.
func isDigit(s string) bool { return s == "0" || s == "1" }
