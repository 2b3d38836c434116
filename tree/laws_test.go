package tree

import (
	"reflect"
	"strings"
	"testing"

	"hypercube/api"
	"hypercube/sample"
)

// P7.1: texts that are made together with their trees.

func TestWrittenTerms(t *testing.T) {
	for seed := range uint32(8000) {
		w := writer{numbers: sample.Spread(seed*2654435761+1, 400)}
		want := w.term(1, int(1+seed%60))
		told(t, w.text.String(), want)
	}
}

func TestWrittenFiles(t *testing.T) {
	for seed := range uint32(3000) {
		w := writer{numbers: sample.Spread(seed*2654435761+3, 400)}
		want := w.file(int(seed % 6))
		s := w.text.String()
		got, at, e := Parse(s)
		if e != api.OK || at != 0 || !reflect.DeepEqual(bareAll(got), bareAll(want)) {
			t.Errorf("Parse(%q) = %v, %d, %d, not %v", s, got, at, e, want)
		}
		if len(want) > 0 { // a file is no term
			refused(t, s, want[0].At+len(want[0].Name)+strings.Index(s[want[0].At+len(want[0].Name):], ":"), api.ErrForm)
		}
	}
}

// Terms that begin on a level close to the greatest: the first that is too deep is told.
func TestWrittenDeep(t *testing.T) {
	deep, fine := 0, 0
	for seed := range uint32(4000) {
		w := writer{numbers: sample.Spread(seed*2654435761+5, 200)}
		level := 190 + int(seed%12)
		var opened []string
		for n := range level - 1 {
			way := wayIn{"(", ")", 1}
			if n%3 > 0 {
				way = wayIn{`\x. `, "", 4}
			}
			w.text.WriteString(way.ahead)
			opened = append(opened, way.behind)
		}
		w.term(level, int(2+seed%30))
		for k := range opened {
			w.text.WriteString(opened[len(opened)-1-k])
		}
		if at, is := w.tooDeep(); is {
			tooDeep(t, w.text.String(), at)
			deep++
		} else {
			notTooDeep(t, w.text.String())
			fine++
		}
	}
	if deep < 500 || fine < 500 {
		t.Errorf("%d are too deep, %d are not: too few to tell", deep, fine)
	}
}

// P7.2.

// isTerm tells whether a tree has the form of a term's.
func isTerm(t api.Tree) bool {
	switch t.Kind {
	case Name:
		return t.Name != "" && len(t.Names) == 0 && len(t.Kids) == 0
	case Lam, PLam:
		return t.Name == "" && areNames(t.Names) && len(t.Names) > 0 && len(t.Kids) == 1 && isTerm(t.Kids[0])
	case Pi, Sigma:
		return t.Name == "" && areNames(t.Names) && len(t.Names) < 2 && len(t.Kids) == 2 && isTerm(t.Kids[0]) && isTerm(t.Kids[1])
	case App, Pair, Ann:
		return nameless(t) && len(t.Kids) == 2 && isTerm(t.Kids[0]) && isTerm(t.Kids[1])
	case At:
		return nameless(t) && len(t.Kids) == 2 && isTerm(t.Kids[0]) && isDim(t.Kids[1])
	case Box:
		return nameless(t) && all(t.Kids, isElem)
	}
	return false
}

func isElem(t api.Tree) bool {
	return t.Kind == Elem && nameless(t) && len(t.Kids) > 0 && len(t.Kids) < 3 && isFace(t.Kids[0]) && all(t.Kids[1:], isTerm)
}

func isFace(t api.Tree) bool { return t.Kind == Face && nameless(t) && all(t.Kids, isEq) }

func isEq(t api.Tree) bool {
	return t.Kind == Eq && areNames([]string{t.Name}) && len(t.Names) == 1 && (t.Names[0] == "0" || t.Names[0] == "1") && len(t.Kids) == 0
}

func isDim(t api.Tree) bool {
	switch t.Kind {
	case Name:
		return areNames([]string{t.Name}) && len(t.Names) == 0 && len(t.Kids) == 0
	case Digit:
		return (t.Name == "0" || t.Name == "1") && len(t.Names) == 0 && len(t.Kids) == 0
	case Not:
		return nameless(t) && len(t.Kids) == 1 && isDim(t.Kids[0])
	case And, Or:
		return nameless(t) && len(t.Kids) == 2 && all(t.Kids, isDim)
	}
	return false
}

func nameless(t api.Tree) bool { return t.Name == "" && len(t.Names) == 0 }

func all(l []api.Tree, is func(api.Tree) bool) bool {
	for _, t := range l {
		if !is(t) {
			return false
		}
	}
	return true
}

// areNames asks the writer's names alone: a letter ahead.
func areNames(l []string) bool {
	for _, s := range l {
		if s == "" || !strings.Contains("xiUfh", s[:1]) {
			return false
		}
	}
	return true
}

// texts tells texts of terms with their trees.
func texts(seeds uint32, size int) map[string]api.Tree {
	out := map[string]api.Tree{}
	for seed := range seeds {
		w := writer{numbers: sample.Spread(seed*2654435761+9, 300)}
		t := w.term(1, int(1+seed)%size)
		out[w.text.String()] = t
	}
	return out
}

func TestForms(t *testing.T) {
	for s := range texts(10000, 50) {
		got, at, e := Term(s)
		if e != api.OK || at != 0 || !isTerm(got) {
			t.Errorf("Term(%q) = %v, %d, %d: it is not of a term's form", s, got, at, e)
		}
	}
}

// bracketed writes a tree with brackets about all that may have them, as often as is asked.
func bracketed(t api.Tree, times int) string {
	in := func(k int) string {
		return strings.Repeat("(", times) + bracketed(t.Kids[k], times) + strings.Repeat(")", times)
	}
	names := strings.Join(t.Names, " ")
	arrow := "->"
	if t.Kind == Sigma {
		arrow = "*"
	}
	switch t.Kind {
	case Name, Digit:
		return t.Name
	case Lam:
		return `\` + names + "." + in(0)
	case PLam:
		return "<" + names + ">" + in(0)
	case Pi, Sigma:
		if names != "" {
			return "(" + names + ":" + in(0) + ")" + arrow + in(1)
		}
		return in(0) + arrow + in(1)
	case App:
		return in(0) + " " + in(1)
	case At:
		return in(0) + "@" + in(1)
	case Pair:
		return "(" + in(0) + "," + in(1) + ")"
	case Ann:
		return "(" + in(0) + ":" + in(1) + ")"
	case Or:
		return in(0) + `\/` + in(1)
	case And:
		return in(0) + `/\` + in(1)
	case Not:
		return "~" + in(0)
	}
	var elems []string
	for _, elem := range t.Kids {
		elems = append(elems, elemText(elem, times))
	}
	return "[" + strings.Join(elems, ",") + "]"
}

func elemText(elem api.Tree, times int) string {
	s := ""
	for _, x := range elem.Kids[0].Kids {
		s += "(" + x.Name + "=" + x.Names[0] + ")"
	}
	if s == "" {
		s = "1"
	}
	if len(elem.Kids) == 2 {
		s += "->" + strings.Repeat("(", times) + bracketed(elem.Kids[1], times) + strings.Repeat(")", times)
	}
	return s
}

func TestMoreBrackets(t *testing.T) {
	for s, tree := range texts(4000, 20) {
		want := bare(placeless(tree))
		for times := 1; times < 4; times++ {
			more := bracketed(tree, times)
			got, at, e := Term(more)
			if e != api.OK || at != 0 || !reflect.DeepEqual(bare(placeless(got)), want) {
				t.Errorf("Term(%q) = %v, %d, %d: not the tree of %q", more, got, at, e, s)
			}
		}
		// A term in brackets begins where it begins without them.
		for _, n := range []int{1, 2, 100} {
			got, at, e := Term(strings.Repeat("(", n) + s + strings.Repeat(")", n))
			if e != api.OK || at != 0 || !alike(got, moved(tree, n)) {
				t.Errorf("Term(%q in %d brackets) = %v, %d, %d", s, n, got, at, e)
			}
		}
	}
}

// What is handed out is new.

// spoil writes over all of a tree's lists, their spare room too, each with a mark of its own, and tells how often one was written over twice.
func spoil(l []api.Tree, mark *int) int {
	twice := 0
	for k := range l {
		names := l[k].Names[:cap(l[k].Names)]
		for n := range names {
			if strings.HasPrefix(names[n], "mark") {
				twice++
			}
			names[n] = "mark"
		}
		twice += spoil(l[k].Kids, mark)
	}
	l = l[:cap(l)]
	for k := range l {
		if l[k].Kind < 0 {
			twice++
		}
		*mark--
		l[k] = api.Tree{Kind: *mark, Name: "mark"}
	}
	return twice
}

func TestAnswersAreNew(t *testing.T) {
	for s := range texts(2000, 40) {
		s = "d : " + s + " = " + s + "; e : U = x;"
		got, _, _ := Parse(s)
		want, _, _ := Parse(s)
		mark := 0
		if twice := spoil(got, &mark); twice > 0 {
			t.Fatalf("Parse(%q): lists share memory", s)
		}
		again, at, e := Parse(s)
		if e != api.OK || at != 0 || !reflect.DeepEqual(want, again) || strings.Contains(s, "mark") {
			t.Fatalf("Parse(%q) kept what it handed out", s)
		}
	}
}

// Whatever it is given, a call ends.
func TestAnyBytes(t *testing.T) {
	for seed := range uint32(20000) {
		var s strings.Builder
		for _, n := range sample.Spread(seed, int(seed%30)) {
			s.WriteByte(byte(n >> 5))
		}
		for _, text := range []string{s.String(), "x " + s.String(), "d : U = " + s.String()} {
			if got, at, e := Term(text); e != api.OK && (!alike(got, api.Tree{}) || at > len(text)) || e == api.OK && (got.Kind == 0 || at != 0) {
				t.Errorf("Term(%q) = %v, %d, %d", text, got, at, e)
			}
			if got, at, e := Parse(text); e != api.OK && (len(got) > 0 || at > len(text)) || e == api.OK && at != 0 {
				t.Errorf("Parse(%q) = %v, %d, %d", text, got, at, e)
			}
		}
	}
}
