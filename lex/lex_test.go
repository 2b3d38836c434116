package lex

import (
	"slices"
	"strings"
	"testing"

	"hypercube/api"
)

// allSigns are those of the chapter, in its order.
var allSigns = strings.Fields(`-> /\ \/ ( ) [ ] , . : ; = \ < > @ ~ * 0 1`)

const (
	blanks  = " \t\n\r" // the bytes that are let by alone
	letters = "abcdefghijklmnopqrstuvwxyzABCDEFGHIJKLMNOPQRSTUVWXYZ_"
	digits  = "0123456789"
)

func name(text string, at int) Token { return Token{Kind: Name, Text: text, At: at} }
func sign(text string, at int) Token { return Token{Kind: Sign, Text: text, At: at} }
func end(at int) Token               { return Token{Kind: End, At: at} }

// short cuts a text that is too long to be told.
func short(s string) string { return s[:min(len(s), 60)] }

// few cuts tokens that are too many to be told, and their texts.
func few(l []Token) []Token {
	out := slices.Clone(l[:min(len(l), 12)])
	for k := range out {
		out[k].Text = short(out[k].Text)
	}
	return out
}

// told holds a text's tokens against those that are wanted.
func told(t *testing.T, s string, want ...Token) {
	t.Helper()
	got, at, e := Scan(s)
	if e != api.OK || at != 0 || !slices.Equal(got, want) {
		t.Errorf("Scan(%q) = %v, %d, %d, not %v", short(s), few(got), at, e, few(want))
	}
}

// refused holds a text's refusal against the one that is wanted.
func refused(t *testing.T, s string, wantAt int, want api.Errno) {
	t.Helper()
	got, at, e := Scan(s)
	if e != want || at != wantAt || len(got) != 0 {
		t.Errorf("Scan(%q) = %d tokens, %d, %d, not refused at %d with %d", short(s), len(got), at, e, wantAt, want)
	}
}

// P6.1: what is let by, names, signs.

func TestKinds(t *testing.T) {
	if End != 0 || Name != 1 || Sign != 2 {
		t.Errorf("End, Name, Sign = %d, %d, %d", End, Name, Sign)
	}
}

func TestExample(t *testing.T) {
	told(t, `\x. x @ 0 -- c`, sign(`\`, 0), name("x", 1), sign(".", 2), name("x", 4), sign("@", 6), sign("0", 8), end(14))
	refused(t, "a-b", 1, api.ErrForm)
}

func TestLetBy(t *testing.T) {
	told(t, "", end(0))
	told(t, blanks, end(4))
	told(t, " \r\n\t \n\n", end(7))
	for _, b := range blanks {
		s := string(b)
		told(t, s, end(1))
		told(t, s+s+s, end(3))
		told(t, s+"x"+s+s+"y"+s, name("x", 1), name("y", 4), end(6))
		told(t, s+"("+s+")", sign("(", 1), sign(")", 3), end(4))
		told(t, "a"+s+"b", name("a", 0), name("b", 2), end(3))
	}
}

func TestComment(t *testing.T) {
	for _, c := range []string{"--", "---", "----", "--x", "-- \t\r", "-->", "--->", "--\r", "-- 2 $ - / \x00 \" '", "-- é \u2028 \U0010ffff \ufffd", "-- a -- b"} {
		n := len(c)
		told(t, c, end(n))
		told(t, c+"\n", end(n+1))
		told(t, c+"\nx", name("x", n+1), end(n+2))
		told(t, c+"\r\n\n x", name("x", n+4), end(n+5))
		told(t, c+"\n"+c, end(2*n+1))
		told(t, c+"\n "+c+"\n(", sign("(", 2*n+3), end(2*n+4))
		told(t, "x"+c, name("x", 0), end(n+1))
		told(t, "x"+c+"\ny", name("x", 0), name("y", n+2), end(n+3))
		for _, s := range allSigns {
			told(t, s+c, sign(s, 0), end(len(s)+n))
			told(t, s+c+"\n"+s, sign(s, 0), sign(s, len(s)+n+1), end(2*len(s)+n+1))
		}
		refused(t, c+"\n2", n+1, api.ErrForm)
	}
	// But a line feed ends none.
	told(t, "--a\rb", end(5))
	told(t, "--a\vb\fc\u0085d\u2028e", end(len("--a\vb\fc\u0085d\u2028e")))
}

func TestNames(t *testing.T) {
	for _, s := range []string{"_", "__", "x", "Pi", "a1", "a01", "_0", "_x", "x_", "x2y3", "aZ_09", "A_", "z9", letters, letters + digits, "_" + digits, strings.Repeat("_", 1000)} {
		n := len(s)
		told(t, s, name(s, 0), end(n))
		told(t, " "+s+" ", name(s, 1), end(n+2))
		told(t, s+" "+s, name(s, 0), name(s, n+1), end(2*n+1))
		told(t, "("+s+")", sign("(", 0), name(s, 1), sign(")", n+1), end(n+2))
		told(t, s+"->"+s, name(s, 0), sign("->", n), name(s, n+2), end(2*n+2))
	}
	for _, b := range letters {
		told(t, string(b), name(string(b), 0), end(1))
		told(t, "x"+string(b)+"1", name("x"+string(b)+"1", 0), end(3))
	}
	for _, b := range digits {
		told(t, "x"+string(b), name("x"+string(b), 0), end(2))
	}
}

func TestSigns(t *testing.T) {
	if len(allSigns) != 20 {
		t.Fatalf("%d signs", len(allSigns))
	}
	for _, s := range allSigns {
		n := len(s)
		told(t, s, sign(s, 0), end(n))
		told(t, "\t"+s+"\n", sign(s, 1), end(n+2))
		told(t, s+"x", sign(s, 0), name("x", n), end(n+1))
		told(t, s+"_1", sign(s, 0), name("_1", n), end(n+2))
		if s != "0" && s != "1" {
			told(t, "x"+s, name("x", 0), sign(s, 1), end(n+1))
		}
		for _, s2 := range allSigns {
			told(t, s+" "+s2, sign(s, 0), sign(s2, n+1), end(n+1+len(s2)))
			// Two that stand together are these two, but where the first takes a byte of the second.
			if s != `\` || s2 != `/\` {
				told(t, s+s2, sign(s, 0), sign(s2, n), end(n+len(s2)))
			}
		}
	}
}

func TestLongestSign(t *testing.T) {
	told(t, "->", sign("->", 0), end(2))
	told(t, "->>", sign("->", 0), sign(">", 2), end(3))
	told(t, ">->", sign(">", 0), sign("->", 1), end(3))
	told(t, "->->", sign("->", 0), sign("->", 2), end(4))
	told(t, `\/`, sign(`\/`, 0), end(2))
	told(t, `/\`, sign(`/\`, 0), end(2))
	told(t, `\/\`, sign(`\/`, 0), sign(`\`, 2), end(3))
	told(t, `\\/`, sign(`\`, 0), sign(`\/`, 1), end(3))
	told(t, `\/\/`, sign(`\/`, 0), sign(`\/`, 2), end(4))
	told(t, `/\/\`, sign(`/\`, 0), sign(`/\`, 2), end(4))
	told(t, `/\\/`, sign(`/\`, 0), sign(`\/`, 2), end(4))
	told(t, `\/ \`, sign(`\/`, 0), sign(`\`, 3), end(4))
	told(t, `\ /\`, sign(`\`, 0), sign(`/\`, 2), end(4))
	told(t, `i\/j/\k`, name("i", 0), sign(`\/`, 1), name("j", 3), sign(`/\`, 4), name("k", 6), end(7))
	refused(t, `/\/`, 2, api.ErrForm)
	refused(t, `\//`, 2, api.ErrForm)
	refused(t, `\/ /`, 3, api.ErrForm)
	refused(t, `->-`, 2, api.ErrForm)
}

func TestDigits(t *testing.T) {
	told(t, "01x2", sign("0", 0), sign("1", 1), name("x2", 2), end(4))
	told(t, "10", sign("1", 0), sign("0", 1), end(2))
	told(t, "00", sign("0", 0), sign("0", 1), end(2))
	for _, d := range []string{"0", "1"} {
		told(t, d, sign(d, 0), end(1))
		told(t, d+"x", sign(d, 0), name("x", 1), end(2))
		told(t, d+"_", sign(d, 0), name("_", 1), end(2))
		told(t, d+"e9", sign(d, 0), name("e9", 1), end(3))
		told(t, d+"--c", sign(d, 0), end(4))
		told(t, d+"--c\n"+d, sign(d, 0), sign(d, 5), end(6))
		told(t, "x"+d, name("x"+d, 0), end(2))
		told(t, "x "+d, name("x", 0), sign(d, 2), end(3))
		for k := '2'; k <= '9'; k++ {
			refused(t, string(k), 0, api.ErrForm)
			refused(t, d+string(k), 1, api.ErrForm)
			refused(t, "x"+d+" "+string(k)+d, 3, api.ErrForm)
			told(t, d+"x"+string(k), sign(d, 0), name("x"+string(k), 1), end(3))
		}
	}
}

// P6.1: what is refused.

func TestNoToken(t *testing.T) {
	for _, x := range []struct {
		s  string
		at int
	}{
		{"-", 0}, {"/", 0}, {"a-", 1}, {"a/", 1}, {"a -", 2}, {"- -", 0}, {"-\n-", 0}, {"-x", 0}, {"/x", 0}, {"//", 0}, {"/ \\", 0}, {"-/", 0}, {"- >", 0}, {"->-x", 2},
		{"0-", 1}, {"1/", 1}, {"-- c\n-", 5}, {"x--\n/", 4}, {"( ) $ 2", 4}, {"x\x00", 1}, {"\x00", 0}, {"\v", 0}, {"\f", 0}, {" \x7f", 1},
		{"é", 0}, {"xé", 1}, {"x é", 2}, {"{", 0}, {"`", 0}, {"^", 0}, {"λ", 0}, {"→", 0},
		// Letters and digits beyond those that are named, some of which look like them or become them in another case.
		{"\u017f", 0}, {"\u00aa", 0}, {"\u212a", 0}, {"\u0430", 0}, {"\u0660", 0}, {"\uff10", 0}, {"\uff21", 0}, {"x\u0301", 1}, {"x\uff11", 1},
		{"\u00a0", 0}, {"\u2028", 0}, {"\ufeffx", 0}, {"\ufffd", 0}, {"x\ufffd", 1}, {"\U0001d7d8", 0}, {"\U0010ffff", 0}, {"\u0085", 0},
	} {
		refused(t, x.s, x.at, api.ErrForm)
	}
}

func TestEachByteAlone(t *testing.T) {
	one := strings.Join(allSigns[3:], "")
	for b := range 256 {
		s := string([]byte{byte(b)})
		switch {
		case b >= 128:
			refused(t, s, 0, api.ErrUtf)
			refused(t, "x "+s, 2, api.ErrUtf)
		case strings.Contains(letters, s):
			told(t, s, name(s, 0), end(1))
			told(t, "x "+s, name("x", 0), name(s, 2), end(3))
		case strings.Contains(one, s):
			told(t, s, sign(s, 0), end(1))
			told(t, "x "+s, name("x", 0), sign(s, 2), end(3))
		case strings.Contains(blanks, s):
			told(t, s, end(1))
			told(t, "x "+s, name("x", 0), end(3))
		default:
			refused(t, s, 0, api.ErrForm)
			refused(t, "x "+s, 2, api.ErrForm)
		}
	}
}

func TestGreatest(t *testing.T) {
	const most = api.MaxText
	if most != 65536 {
		t.Fatalf("MaxText = %d", most)
	}
	told(t, strings.Repeat(" ", most), end(most))
	told(t, strings.Repeat("\n", most), end(most))
	told(t, strings.Repeat("x", most), name(strings.Repeat("x", most), 0), end(most))
	told(t, "x"+strings.Repeat(" ", most-2)+"y", name("x", 0), name("y", most-1), end(most))
	told(t, strings.Repeat("-", most), end(most))
	told(t, strings.Repeat("--\n", most/3)+")", sign(")", most-1), end(most))
	// The bytes are counted, not what they are read as.
	told(t, "--"+strings.Repeat("é", most/2-1), end(most))
	refused(t, "--"+strings.Repeat("é", most/2), 0, api.ErrBig)
	var many []Token
	for at := range most {
		many = append(many, sign("1", at))
	}
	told(t, strings.Repeat("1", most), append(many, end(most))...)
	refused(t, strings.Repeat(" ", most-1)+"-", most-1, api.ErrForm)
	refused(t, strings.Repeat(" ", most-1)+"\xc3", most-1, api.ErrUtf)
	for _, s := range []string{" ", "\n", "x", "1", "-", "2", "\xff", "é"} {
		refused(t, strings.Repeat(s, most+1), 0, api.ErrBig)
		refused(t, strings.Repeat(" ", most)+s, 0, api.ErrBig)
		refused(t, s+strings.Repeat(" ", most), 0, api.ErrBig)
	}
}

// Rules that hold everywhere.

func TestAnswersAreNew(t *testing.T) {
	for _, s := range []string{"", "x", `\x. x @ 0 -- c`, "a b c ( ) ->"} {
		want, _, _ := Scan(s)
		want = slices.Clone(want)
		got, _, _ := Scan(s)
		got = got[:cap(got)]
		for k := range got {
			got[k] = Token{Kind: 77, Text: "?", At: -1}
		}
		told(t, s, want...)
	}
}
