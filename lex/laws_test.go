package lex

import (
	"regexp"
	"strings"
	"testing"

	"hypercube/api"
	"hypercube/sample"
)

// The chapter's words as expressions: another road to the same tokens.
var (
	passed    = regexp.MustCompile(`\A(?s:[ \t\n\r]|--[^\n]*(?:\n|\z))*`)
	between   = regexp.MustCompile(`\A(?:[ \t\n\r]|--[^\n]*\n)*\z`)
	atTheEnd  = regexp.MustCompile(`\A(?:[ \t\n\r]|--[^\n]*\n)*(?:--[^\n]*)?\z`)
	nameForm  = regexp.MustCompile(`\A[a-zA-Z_][a-zA-Z0-9_]*`)
	signForms = longestSigns()
)

func longestSigns() *regexp.Regexp {
	var quoted []string
	for _, s := range allSigns {
		quoted = append(quoted, regexp.QuoteMeta(s))
	}
	r := regexp.MustCompile(`\A(?:` + strings.Join(quoted, "|") + `)`)
	r.Longest()
	return r
}

// byExpressions tells a text's tokens, or the place where none begins; the text is UTF-8 and not too great.
func byExpressions(s string) ([]Token, int, api.Errno) {
	var out []Token
	at := 0
	for {
		at += len(passed.FindString(s[at:]))
		if at == len(s) {
			return append(out, end(at)), 0, api.OK
		}
		n, g := nameForm.FindString(s[at:]), signForms.FindString(s[at:])
		switch {
		case len(n) > len(g):
			out = append(out, name(n, at))
		case g != "":
			out = append(out, sign(g, at))
		default:
			return nil, at, api.ErrForm
		}
		at += max(len(n), len(g))
	}
}

// same holds Scan of a text against the expressions.
func same(t *testing.T, s string) {
	t.Helper()
	want, at, e := byExpressions(s)
	if e != api.OK {
		refused(t, s, at, e)
		return
	}
	told(t, s, want...)
}

func TestShortTexts(t *testing.T) {
	// All texts of at most six of these.
	parts := []string{"-", ">", "/", `\`, "x", "1", "\n", "é"}
	n := len(parts)
	for length := range 7 {
		all := 1
		for range length {
			all *= n
		}
		for k := range all {
			s := ""
			for range length {
				s += parts[k%n]
				k /= n
			}
			same(t, s)
		}
	}
}

// texts tells texts of pieces, with and without such that are no tokens.
func texts(seeds uint32) []string {
	good := append(strings.Split(blanks, ""), allSigns...)
	good = append(good, "x", "_", "Pi", "a1", "z_Z9", "-- c\n", "--\n", "---->\r\n", "-- é 2\n", "  ", "\r\n", "0x", "1_")
	bad := []string{"2", "-", "/", "é", "$", "\x00", "\ufffd"}
	var out []string
	for seed := range seeds {
		pieces := good
		if seed%4 == 0 {
			pieces = append(append([]string{}, good...), bad...)
		}
		var s strings.Builder
		for _, k := range sample.Spread(seed*2654435761, int(seed%40)) {
			s.WriteString(pieces[int(k>>4)%len(pieces)])
		}
		if seed%3 == 0 {
			s.WriteString("-- the end")
		}
		out = append(out, s.String())
	}
	return out
}

func TestTexts(t *testing.T) {
	for _, s := range texts(20000) {
		same(t, s)
	}
}

// P6.2.

func TestTokensStandInTheirPlaces(t *testing.T) {
	for _, s := range texts(20000) {
		l, _, e := Scan(s)
		if e != api.OK {
			continue
		}
		behind := 0
		for k, x := range l {
			if x.At < behind || x.At > len(s) || !strings.HasPrefix(s[x.At:], x.Text) {
				t.Fatalf("Scan(%q): the token %v is not in its place", s, x)
			}
			last := k == len(l)-1
			if (x.Kind == End) != last || (x.Text == "") != last || last && x.At != len(s) {
				t.Fatalf("Scan(%q): the token %v, %d of %d", s, x, k, len(l))
			}
			gap, form := s[behind:x.At], between
			if last {
				form = atTheEnd
			}
			if !form.MatchString(gap) {
				t.Fatalf("Scan(%q): %q is ahead of the token %v", s, gap, x)
			}
			behind = x.At + len(x.Text)
		}
	}
}

// spread tells tokens with a blank between each two, as a text, and where they then stand.
func spread(l []Token) (string, []Token) {
	var s strings.Builder
	var out []Token
	for k, x := range l {
		if k > 0 {
			s.WriteByte(' ')
		}
		x.At = s.Len()
		out = append(out, x)
		s.WriteString(x.Text)
	}
	return s.String(), out
}

func TestTokensWithABlankBetween(t *testing.T) {
	for _, s := range texts(20000) {
		l, _, e := Scan(s)
		if e != api.OK {
			continue
		}
		// The token End has no text: a blank ahead of it is one at the text's end.
		text, want := spread(l)
		told(t, text, want...)
		if n := len(l) - 1; n > 0 {
			text, want = spread(l[:n])
			told(t, text, append(want, end(len(text)))...)
		}
	}
}

func TestEachTwoTokensWithABlankBetween(t *testing.T) {
	var all []Token
	for _, s := range allSigns {
		all = append(all, sign(s, 0))
	}
	for _, s := range []string{"_", "x", "Z", "a1", "x_0", "_9"} {
		all = append(all, name(s, 0))
	}
	for _, a := range all {
		for _, b := range all {
			for _, c := range all {
				text, want := spread([]Token{a, b, c})
				told(t, text, append(want, end(len(text)))...)
			}
		}
	}
}
