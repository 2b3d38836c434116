package lex

import (
	"strings"
	"testing"

	"hypercube/api"
)

// P6.1: a text that is no UTF-8.

// broken tells bytes of which the first begins no scalar value's bytes that are whole.
func broken() []string {
	return []string{
		// The end comes too soon.
		"\xc2", "\xdf", "\xe0\xa0", "\xe1\x80", "\xe1", "\xef\xbf", "\xf0\x90\x80", "\xf0\x90", "\xf0", "\xf4\x8f\xbf",
		// Another byte comes too soon.
		"\xc3x", "\xc3 ", "\xc3\n", "\xc3\xc3\xa9", "\xe2\x86x", "\xe2x", "\xe2\x86\xe2\x86\x92", "\xf0\x9d\x9fx", "\xf0\x9dx", "\xf0x",
		// More bytes than are needed.
		"\xc0\x80", "\xc0\xaf", "\xc1\xbf", "\xe0\x80\x80", "\xe0\x80\xaf", "\xe0\x9f\xbf", "\xf0\x80\x80\x80", "\xf0\x8f\xbf\xbf", "\xf8\x88\x80\x80\x80", "\xfc\x84\x80\x80\x80\x80",
		// Halves of pairs, alone and together.
		"\xed\xa0\x80", "\xed\xad\xbf", "\xed\xae\x80", "\xed\xaf\xbf", "\xed\xb0\x80", "\xed\xbf\xbf", "\xed\xa0\x80\xed\xb0\x80",
		// Above the last scalar value.
		"\xf4\x90\x80\x80", "\xf4\xbf\xbf\xbf", "\xf5\x80\x80\x80", "\xf7\xbf\xbf\xbf", "\xfe", "\xff",
		// Bytes that only follow.
		"\x80", "\xbf", "\x80\x80", "\xa9",
	}
}

func TestBroken(t *testing.T) {
	for _, b := range broken() {
		refused(t, b, 0, api.ErrUtf)
		for _, ahead := range []string{
			"x", "x ", `\x. `, "->", "\n\t", "-- c\n", "-- c ", "--", "0", "--é", "--\ufffd", "--\ufffd\n", "--\ud7ff\ue000\U00010000\U0010ffff",
			// What is no token, ahead of it, does not count.
			"2", "-", "/ ", "a-b ", "é", "\ufffd", "x $ ", "\x00", "λ→",
		} {
			refused(t, ahead+b, len(ahead), api.ErrUtf)
			refused(t, ahead+b+"\n", len(ahead), api.ErrUtf)
			refused(t, ahead+b+"2 \xff", len(ahead), api.ErrUtf)
		}
	}
	// A whole one, and a byte that follows it needlessly.
	refused(t, "--é\xa9", 4, api.ErrUtf)
	refused(t, "-- →\x92", 6, api.ErrUtf)
	refused(t, "é\x80", 2, api.ErrUtf)
}

// wellFormed tells how many bytes of a text's beginning are one scalar value's, 0 if none are: by the ranges of bytes that the standard lists.
func wellFormed(s string) int {
	for _, row := range []struct{ ranges string }{
		{"\x00\x7f"}, {"\xc2\xdf\x80\xbf"},
		{"\xe0\xe0\xa0\xbf\x80\xbf"}, {"\xe1\xec\x80\xbf\x80\xbf"}, {"\xed\xed\x80\x9f\x80\xbf"}, {"\xee\xef\x80\xbf\x80\xbf"},
		{"\xf0\xf0\x90\xbf\x80\xbf\x80\xbf"}, {"\xf1\xf3\x80\xbf\x80\xbf\x80\xbf"}, {"\xf4\xf4\x80\x8f\x80\xbf\x80\xbf"},
	} {
		n := len(row.ranges) / 2
		if len(s) < n {
			continue
		}
		in := true
		for k := range n {
			in = in && s[k] >= row.ranges[2*k] && s[k] <= row.ranges[2*k+1]
		}
		if in {
			return n
		}
	}
	return 0
}

// firstBroken tells the place of the first byte that begins nothing whole, -1 if there is none.
func firstBroken(s string) int {
	for at := 0; at < len(s); {
		n := wellFormed(s[at:])
		if n == 0 {
			return at
		}
		at += n
	}
	return -1
}

func TestBytesAgainstTheRanges(t *testing.T) {
	// The bytes at which the ranges begin and end, and those beside them.
	edges := "\x00\n-a\x7f\x80\x8f\x90\x9f\xa0\xbf\xc0\xc1\xc2\xdf\xe0\xe1\xec\xed\xee\xef\xf0\xf1\xf3\xf4\xf5\xff"
	n := len(edges)
	for k := range n * n * n * n {
		four := string([]byte{edges[k%n], edges[k/n%n], edges[k/n/n%n], edges[k/n/n/n]})
		s := "--" + four
		at := firstBroken(s)
		got, gotAt, e := Scan(s)
		switch {
		case at >= 0:
			if e != api.ErrUtf || gotAt != at || len(got) != 0 {
				t.Fatalf("Scan(%q) = %v, %d, %d, not refused at %d", s, got, gotAt, e, at)
			}
		case e == api.ErrUtf:
			t.Fatalf("Scan(%q) is refused at %d, but it is UTF-8", s, gotAt)
		case !strings.Contains(four, "\n") && (e != api.OK || len(got) != 1 || got[0] != end(6)):
			t.Fatalf("Scan(%q) = %v, %d, %d, but it is a comment", s, got, gotAt, e)
		}
	}
}

func TestEachPairOfBytes(t *testing.T) {
	for k := range 1 << 16 {
		s := "--" + string([]byte{byte(k >> 8), byte(k)})
		_, gotAt, e := Scan(s)
		if at := firstBroken(s); (at >= 0) != (e == api.ErrUtf) || at >= 0 && gotAt != at {
			t.Fatalf("Scan(%q): %d, %d, not %d", s, gotAt, e, at)
		}
	}
}
