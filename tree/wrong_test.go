package tree

import (
	"strings"
	"testing"

	"hypercube/api"
)

// P7.1: what Scan refuses.

func TestWhatScanRefuses(t *testing.T) {
	for _, x := range []struct {
		s  string
		at int
		e  api.Errno
	}{
		{strings.Repeat("x", api.MaxText+1), 0, api.ErrBig},
		{strings.Repeat(")", api.MaxText+1), 0, api.ErrBig},
		{"x \xff", 2, api.ErrUtf}, {") \xff", 2, api.ErrUtf}, {"x 2 \xc3", 4, api.ErrUtf}, {"\xed\xa0\x80", 0, api.ErrUtf}, {"-- \x80", 3, api.ErrUtf},
		{"2", 0, api.ErrForm}, {"x - y", 2, api.ErrForm}, {") ( é", 4, api.ErrForm}, {"[(i=2)]", 4, api.ErrForm}, {"d : U = U; $", 11, api.ErrForm},
		// All tokens are told ahead of any tree: what is wrong for the grammar, or too deep, is not told ahead of it.
		{"; ; /", 4, api.ErrForm}, {strings.Repeat("(", 300) + "x $", 302, api.ErrForm}, {strings.Repeat("(", 300) + "x \xff", 302, api.ErrUtf},
	} {
		refused(t, x.s, x.at, x.e)
		refusedFile(t, x.s, x.at, x.e)
	}
}

func TestGreatTexts(t *testing.T) {
	name := strings.Repeat("x", api.MaxText)
	if got, at, e := Term(name); e != api.OK || at != 0 || !alike(got, nm(name, 0)) {
		t.Errorf("a name of %d bytes: %d, %d", len(name), at, e)
	}
	// As many tokens as there are: none of them is nested.
	got, at, e := Term(strings.Repeat("x ", api.MaxText/2))
	if e != api.OK || at != 0 {
		t.Fatalf("x x x ..: %d, %d", at, e)
	}
	for k := api.MaxText/2 - 1; k > 0; k-- {
		if got.Kind != App || got.At != 0 || len(got.Kids) != 2 || !alike(got.Kids[1], nm("x", 2*k)) {
			t.Fatalf("x x x ..: the part %d is %d at %d", k, got.Kind, got.At)
		}
		got = got.Kids[0]
	}
	refused(t, strings.Repeat("x", api.MaxText-1)+")", api.MaxText-1, api.ErrForm)
	refused(t, strings.Repeat("(", api.MaxText), 200, api.ErrDeep)
	refused(t, strings.Repeat(")", api.MaxText), 0, api.ErrForm)
}

// P7.1: tokens that the grammar does not let stand.

func TestWrongTerms(t *testing.T) {
	for _, x := range []struct {
		s  string
		at int
	}{
		// Where a term begins.
		{"", 0}, {"  ", 2}, {"-- c", 4}, {")", 0}, {"]", 0}, {",", 0}, {".", 0}, {":", 0}, {";", 0}, {"=", 0}, {">", 0}, {"@", 0}, {"~", 0}, {"*", 0}, {"0", 0}, {"1", 0}, {"->", 0}, {`/\`, 0}, {`\/`, 0},
		{"~i", 0}, {"1 -> x", 0}, {"@ i", 0}, {"* B", 0}, {"-> B", 0},
		// Behind a term.
		{"x ;", 2}, {"x )", 2}, {"x ]", 2}, {"x ,", 2}, {"x .", 2}, {"x :", 2}, {"x =", 2}, {"x >", 2}, {"x ~", 2}, {"x 0", 2}, {"x 1", 2}, {`x \`, 2}, {`x <`, 2}, {`x /\`, 2}, {`x \/`, 2}, {"(x) )", 4}, {"[] ]", 3},
		{`f \x. x`, 2}, {`f <i> x`, 2}, {"x, y", 1}, {"x : A", 2}, {"x = y;", 2}, {"x y ; z", 4}, {"f x ~i", 4},
		// Lam and PLam.
		{`\`, 1}, {`\.`, 1}, {`\. x`, 1}, {`\(x). x`, 1}, {`\0. x`, 1}, {`\x`, 2}, {`\x x`, 4}, {`\x, y. x`, 2}, {`\x : A. x`, 3}, {`\x -> x`, 3}, {`\x.`, 3}, {`\x. )`, 4}, {`\x. ;`, 4}, {`\x > x`, 3}, {`\\x. x`, 1}, {`\x (y). x`, 3}, {`\x. 0`, 4},
		{"<", 1}, {"<>", 1}, {"<> x", 1}, {"<0> x", 1}, {"<i", 2}, {"<i.", 2}, {"<i, j> x", 2}, {"<i>", 3}, {"<i> >", 4}, {"<i> 1", 4}, {"<<i> x", 1}, {"<i j", 4},
		// Arrows.
		{"A ->", 4}, {"A -> -> B", 5}, {"A -> )", 5}, {"A *", 3}, {"A * * B", 4}, {"A * 0", 4}, {"(x : A) ->", 10}, {"(x : A) *", 9}, {"(x : A) -> ;", 11}, {"A -> B ;", 7}, {`\x. x -> A ) `, 11},
		{"(x : ) -> B", 5}, {"(x : A B ; ) -> C", 9}, {"(x : A, B) -> C", 6}, {"(x : A : B) -> C", 7}, {"(x y : A) -> )", 13}, {"(x : 0) -> B", 5}, {"(x : A) -> B C : D", 15}, {"(x : [) -> B", 6}, {"(x : A -> B", 11},
		// Brackets.
		{"(", 1}, {"()", 1}, {"(x", 2}, {"(x ;", 3}, {"(x ]", 3}, {"(x =", 3}, {"(,", 1}, {"(x,", 3}, {"(x, )", 4}, {"(x, y", 5}, {"(x, y, z)", 5}, {"(x, y : A)", 6}, {"(x, y]", 5}, {"(:", 1}, {"(x :", 4}, {"(x : )", 5}, {"(x : A", 6}, {"(x : A]", 6}, {"(x : A : B)", 7}, {"(x : A, B)", 6}, {"(0)", 1}, {"(~i)", 1}, {"(i=0)", 2}, {"((x)", 4}, {"(x))", 3},
		// Dims.
		{"p @", 3}, {"p @ @", 4}, {"p @ )", 4}, {"p @ [", 4}, {`p @ \x. x`, 4}, {"p @ <i> x", 4}, {"p @ -> B", 4}, {"p @ *", 4}, {"p @ ;", 4}, {"p @ ,", 4}, {`p @ /\ i`, 4},
		{"p @ ~", 5}, {"p @ ~ )", 6}, {"p @ ~~", 6}, {"p @ ~[", 5}, {"p @ (", 5}, {"p @ ()", 5}, {"p @ (i", 6}, {"p @ (i j)", 7}, {"p @ (i, j)", 6}, {"p @ (i : A)", 7}, {"p @ (p @ i)", 7}, {"p @ (i -> j)", 7},
		{`p @ (i /\`, 9}, {`p @ (i /\ )`, 10}, {`p @ (i /\ /\ j)`, 10}, {`p @ (i \/)`, 9}, {`p @ (i \/ /\ j)`, 10}, {`p @ (i /\ \x`, 10}, {`p @ (/\ i)`, 5}, {`p @ (i ~j)`, 7}, {`p @ (i 0)`, 7}, {`p @ (i (j))`, 7}, {`p @ (i \/ j]`, 11},
		{`p @ i \/ j`, 6}, {`p @ i /\ j`, 6}, {`p @ ~(i /\ j) \/ k`, 14}, {"p @ 0 1", 6}, {"p @ i ~j", 6}, {"p @ 01", 5},
		// Boxes.
		{"[", 1}, {"[x", 1}, {"[x]", 1}, {"[0]", 1}, {"[,]", 1}, {"[->", 1}, {"[[", 1}, {"[)", 1}, {"[1", 2}, {"[1)", 2}, {"[1 1]", 3}, {"[1 (i=0)]", 3}, {"[1 x]", 3}, {"[1,", 3}, {"[1,]", 3}, {"[1, x]", 4}, {"[1 ->", 5}, {"[1 ->]", 5}, {"[1 -> ,]", 6}, {"[1 -> x", 7}, {"[1 -> x)", 7}, {"[1 -> x, ]", 9}, {"[1 -> 1]", 6}, {"[1 * x]", 3}, {"[1 = x]", 3}, {"[1 : x]", 3},
		{"[(", 2}, {"[()", 2}, {"[(0=0)]", 2}, {"[((i=0))]", 2}, {"[(i", 3}, {"[(i)]", 3}, {"[(i : A)]", 4}, {"[(i =", 5}, {"[(i = )]", 6}, {"[(i = j)]", 6}, {"[(i = ~0)]", 6}, {"[(i=0", 5}, {"[(i=0]", 5}, {"[(i=0=1)]", 5}, {"[(i=0 1)]", 6}, {"[(i=01)]", 5}, {"[(i=0)", 6}, {"[(i=0) 1]", 7}, {"[(i=0) x]", 7}, {"[(i=0) (j)]", 9}, {"[(i=0), 0]", 8}, {"[(i=0) /\\ (j=0)]", 7}, {"[(i j=0)]", 4},
	} {
		refused(t, x.s, x.at, api.ErrForm)
		// What is wrong further on is not told.
		if x.at < len(x.s) {
			refused(t, x.s+" ) ] ;", x.at, api.ErrForm)
			if x.s[x.at] != ';' { // which may stand behind a term there
				refusedFile(t, "d : U = "+x.s, 8+x.at, api.ErrForm)
			}
		}
	}
}

func TestWrongFiles(t *testing.T) {
	for _, x := range []struct {
		s  string
		at int
	}{
		{"x", 1}, {"x y", 2}, {"(x", 0}, {";", 0}, {":", 0}, {"0", 0}, {`\x. x`, 0}, {"f", 1}, {"f :", 3}, {"f = U;", 2}, {"f ; U", 2}, {"f : = U;", 4}, {"f : ; U", 4}, {"f : U", 5}, {"f : U;", 5}, {"f : U : U;", 6}, {"f : U -> = x;", 9}, {"f : U ) = x;", 6},
		{"f : U =", 7}, {"f : U = ;", 8}, {"f : U = = x;", 8}, {"f : U = U", 9}, {"f : U = U :", 10}, {"f : U = U = U;", 10}, {"f : U = U, U;", 9}, {"f : U = U;;", 10}, {"f : U = U; )", 11}, {"f : U = U; g", 12}, {"f : U = U; g : U", 16}, {"f : U = U; 1 : U = U;", 11}, {"f : U = U g : U = U;", 12}, {"f : U = U; g : U = U", 20}, {"(f : U) = U;", 0}, {"f x : U = U;", 2}, {"f : U = U; -- ;\ng", 17},
	} {
		refusedFile(t, x.s, x.at, api.ErrForm)
		if x.at < len(x.s) {
			refusedFile(t, x.s+" ) ] ;", x.at, api.ErrForm)
		}
	}
}

// P7.1: levels.

// wayIn is a way one level further in: what stands ahead of what is there, and behind it; and where the first that is so far in begins, if it is not that.
type wayIn struct {
	ahead, behind string
	first         int
}

// termWays are those of a term into a term.
var termWays = []wayIn{
	{"(", ")", 1}, {"(", ", y)", 1}, {"(x, ", ")", 1}, {"(", " : A)", 1}, {"(f x : ", ")", 1}, {"(x : ", ")", 1}, {"f (", ")", 3}, {"(", ") x", 1}, {"(", ") @ i", 1},
	{`\x. `, "", 4}, {`\x y z. `, "", 8}, {"<i> ", "", 4}, {"<i j> ", "", 6},
	{"A -> ", "", 5}, {"A * ", "", 4}, {"(x : A) -> ", "", 5}, {"(x : A) * ", "", 5}, {"(x : ", ") -> B", 5}, {"(x : ", ") * B", 5}, {"f x @ i -> ", "", 6}, {"(", ") -> B", 1},
	{"[1 -> ", "]", 6}, {"[(i=0)(j=1) -> ", ", 1 -> y]", 15}, {"[1, (i=0) -> ", "]", 13}, {"f [1 -> ", "]", 8},
}

// dimWays are those of a dim into a dim.
var dimWays = []wayIn{{"~", "", 1}, {"(", ")", 1}, {`(i /\ `, ")", 1}, {"(", ` \/ j)`, 1}, {`(i \/ 0 /\ `, ")", 1}}

// within tells a text n levels further in.
func within(way wayIn, n int, s string) string {
	return strings.Repeat(way.ahead, n) + s + strings.Repeat(way.behind, n)
}

// tooDeep holds a term against one that is refused with ErrDeep, alone and in a file.
func tooDeep(t *testing.T, s string, at int) {
	t.Helper()
	refused(t, s, at, api.ErrDeep)
	refusedFile(t, "d : U = "+s+";", 8+at, api.ErrDeep)
	refusedFile(t, "d : "+s+" = U;", 4+at, api.ErrDeep)
}

// notTooDeep holds a term against one that is read, alone and in a file.
func notTooDeep(t *testing.T, s string) {
	t.Helper()
	if got, at, e := Term(s); got.Kind == 0 || at != 0 || e != api.OK {
		t.Errorf("Term(%q) = a %d, %d, %d", short(s), got.Kind, at, e)
	}
	if got, at, e := Parse("d : " + s + " = " + s + ";"); len(got) != 1 || at != 0 || e != api.OK {
		t.Errorf("Parse of twice %q = %d, %d, %d", short(s), len(got), at, e)
	}
}

func TestLevelsOfTerms(t *testing.T) {
	for _, way := range termWays {
		for n := 190; n < 200; n++ {
			notTooDeep(t, within(way, n, "x"))
		}
		for _, n := range []int{200, 201, 300} {
			tooDeep(t, within(way, n, "x"), 199*len(way.ahead)+way.first)
		}
	}
}

func TestLevelsOfMixedWays(t *testing.T) {
	ahead, behind := "", ""
	for n := range 199 {
		way := termWays[n%len(termWays)]
		ahead, behind = ahead+way.ahead, way.behind+behind
	}
	notTooDeep(t, ahead+"x"+behind)
	notTooDeep(t, ahead+"f [1, (i=0)(j=1)] x y"+behind)
	for _, last := range termWays {
		tooDeep(t, ahead+last.ahead+"x"+last.behind+behind, len(ahead)+last.first)
	}
}

// What stands on the level 200 may have parts on its own level, but none further in.
func TestOnTheLastLevel(t *testing.T) {
	ahead, behind := strings.Repeat("(", 199), strings.Repeat(")", 199)
	for _, s := range []string{"x", "f x", "f x y", "[]", "[1]", "[(i=0)]", "[(i=0)(j=1), 1, (k=0)]", "f [] [1] x"} {
		notTooDeep(t, ahead+s+behind)
	}
	for _, x := range []struct {
		s  string
		at int
	}{
		{"(x)", 1}, {"((x))", 1}, {"f (x)", 3}, {"(x, y)", 1}, {"(x : A)", 1}, {"(x : A) y", 1}, {"(x : A) -> B", 5}, {"(x : A) * B", 5}, {"(x : (y : A) -> B) * B", 5}, {"((x : A)) -> B", 1}, {"A -> B", 5}, {"A -> (B)", 5}, {"A * B", 4}, {"f x * B", 6},
		{`\x. x`, 4}, {`\x y. \z. x`, 6}, {"<i> x", 4}, {"p @ i", 4}, {"p @ 0", 4}, {"p @ ~i", 4}, {"p @ (i)", 4}, {"f x @ 1 y", 6}, {"[1 -> x]", 6}, {"[(i=0), (j=0) -> (x)]", 17}, {"[1, 1 -> []]", 9},
		// An Ann whose bracket is not closed, or behind which no arrow is.
		{"(x : A", 1}, {"(x : A ;", 1}, {"(x : (A) -> B", 1}, {"(x : A) ;", 1},
	} {
		tooDeep(t, ahead+x.s+behind, 199+x.at)
	}
	// Where no term and no dim begins, none is too deep.
	for _, x := range []struct {
		s  string
		at int
	}{
		{"()", 1}, {"(;", 1}, {"(]", 1}, {"(0)", 1}, {"(~i)", 1}, {"A -> ->", 5}, {"A -> )", 5}, {"A -> 1", 5}, {`\x. ;`, 4}, {"<i> @", 4}, {"p @ )", 4}, {"p @ [", 4}, {`p @ \x. x`, 4}, {"p @ <", 4}, {"[1 -> ]", 6}, {"[1 -> 0", 6}, {"(x : ) -> B", 5}, {"(x : 0) -> B", 5},
		// And what is wrong on the last level itself.
		{"x 0", 2}, {"[0]", 1}, {"[(i=x)]", 4}, {"[((x", 2}, {`\. x`, 1}, {"x ~", 2}, {";", 0},
	} {
		refused(t, ahead+x.s+behind, 199+x.at, api.ErrForm)
	}
	refused(t, ahead, 199, api.ErrForm)
	refused(t, ahead+"(", 200, api.ErrForm)
	refused(t, ahead+`\x.`, 202, api.ErrForm)
	refused(t, ahead+"p @", 202, api.ErrForm)
}

func TestLevelsOfDims(t *testing.T) {
	for _, way := range dimWays {
		// The term is on the level 1, the dim behind its @ on the level 2.
		for n := 190; n < 199; n++ {
			notTooDeep(t, "p @ "+within(way, n, "k"))
		}
		for _, n := range []int{199, 200, 280} {
			tooDeep(t, "p @ "+within(way, n, "k"), 4+198*len(way.ahead)+way.first)
		}
	}
	// A dim is as far in as its term is, and one.
	for n := 1; n < 199; n++ {
		ahead, behind := strings.Repeat("(", n), strings.Repeat(")", n)
		notTooDeep(t, ahead+"p @ "+strings.Repeat("~", 198-n)+"i"+behind)
		tooDeep(t, ahead+"p @ "+strings.Repeat("~", 199-n)+"i"+behind, 203)
		tooDeep(t, strings.Repeat("A -> ", n)+"p @ "+strings.Repeat("(", 199-n)+"1", 5*n+4+199-n)
		tooDeep(t, strings.Repeat(`\x. `, n)+"p @ "+strings.Repeat("(~", 100), 4*n+4+199-n)
	}
	// What is met and joined, however often, is on one level.
	long := strings.Repeat(`i /\ j \/ `, 2000) + "k"
	notTooDeep(t, "p @ ("+long+")")
	notTooDeep(t, strings.Repeat("A -> ", 197)+"p @ ("+long+")")
	tooDeep(t, strings.Repeat("A -> ", 198)+"p @ ("+long+")", 198*5+5)
	notTooDeep(t, strings.Repeat("p @ i x ", 2)+strings.Repeat("@ i x ", 2000))
}

// What is wrong and what is too deep: the first from the left is told.
func TestFirstFromTheLeft(t *testing.T) {
	ahead, behind := strings.Repeat("(", 200), strings.Repeat(")", 200)
	tooDeep(t, ahead+"x"+behind, 200)
	refused(t, ahead+"x ; "+behind, 200, api.ErrDeep)
	refused(t, ahead+"x"+behind+" )", 200, api.ErrDeep)
	refused(t, ahead+"x", 200, api.ErrDeep)
	refused(t, "x ; "+ahead+"x"+behind, 2, api.ErrForm)
	refused(t, "f 0 "+ahead+"x"+behind, 2, api.ErrForm)
	refused(t, ahead[:150]+"0"+ahead+"x", 150, api.ErrForm)
	refused(t, "f "+ahead[1:]+"x"+behind[1:]+" "+ahead+"x"+behind, 602, api.ErrDeep)
	refused(t, "f "+ahead[1:]+"x"+behind+" "+ahead+"x"+behind, 401, api.ErrForm)
	refusedFile(t, "d : U = U; "+ahead, 11, api.ErrForm)
	refusedFile(t, "d : "+ahead+"x = ;", 204, api.ErrDeep)
	refusedFile(t, "d : = "+ahead+"x", 4, api.ErrForm)
	refusedFile(t, "d : U = "+ahead+"x", 208, api.ErrDeep)
	refusedFile(t, "d : U = U; e : U = "+ahead+"x; ;", 219, api.ErrDeep)
	refusedFile(t, "d : U = U; ; e : U = "+ahead+"x;", 11, api.ErrForm)
	// Each declaration begins on the level 1 again.
	one := "d : " + ahead[1:] + "x" + behind[1:] + " = " + strings.Repeat(`\x. `, 199) + "x;"
	if l, at, e := Parse(strings.Repeat(one, 10)); len(l) != 10 || at != 0 || e != api.OK {
		t.Errorf("ten deep declarations: %d, %d, %d", len(l), at, e)
	}
}
