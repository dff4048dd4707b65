package lex_test

import (
	"math/rand"
	"slices"
	"strings"
	"testing"

	"ceiling/api"
	"ceiling/lex"
)

// reads fails the test unless Tokens returns these tokens.
func reads(t *testing.T, src string, want ...api.Token) {
	t.Helper()
	if l, line, e := lex.Tokens(src); !slices.Equal(l, want) || line != 0 || e != api.OK {
		t.Errorf("%.40q: %v %d %v", src, l, line, e)
	}
}

// fails fails the test unless Tokens returns this error and this line, and no tokens.
func fails(t *testing.T, src string, at int, why api.Errno) {
	t.Helper()
	if l, line, e := lex.Tokens(src); len(l) != 0 || line != at || e != why {
		t.Errorf("%.40q: %d tokens, line %d, %v; not line %d, %v", src, len(l), line, int(e), at, int(why))
	}
}

// P2.2: the chapter's examples of Tokens.
func TestExamplesOfTokens(t *testing.T) {
	reads(t, "X := 1;", name(1, "X"), sym(1, ":="), number(1, 1), sym(1, ";"))
	reads(t, "1..3=>X'First--.", number(1, 1), sym(1, ".."), number(1, 3), sym(1, "=>"), name(1, "X"), sym(1, "'"), name(1, "First"))
	fails(t, "a\nb 12c", 2, api.ErrToken)
}

// P2.2: words are as long as can be, and lines are counted.
func TestWords(t *testing.T) {
	reads(t, "")
	reads(t, " \n \n")
	reads(t, "end endx End end_ xend", key(1, "end"), name(1, "endx"), name(1, "End"), name(1, "end_"), name(1, "xend"))
	reads(t, "\n\na b\n c", name(3, "a"), name(3, "b"), name(4, "c"))
	reads(t, "if;a9'b_.is", key(1, "if"), sym(1, ";"), name(1, "a9"), sym(1, "'"), name(1, "b_"), sym(1, "."), key(1, "is"))
	long := strings.Repeat("n", 32)
	reads(t, long, name(1, long))
	reads(t, long+"(", name(1, long), sym(1, "("))
	fails(t, long+"n", 1, api.ErrToken)
	fails(t, long+"\n"+long+"9 ", 2, api.ErrToken)
	for _, s := range reserved {
		reads(t, s+"\n"+s, key(1, s), key(2, s))
	}
}

// P2.2: the longest symbol at a place.
func TestLongestSymbols(t *testing.T) {
	for _, s := range symbols {
		reads(t, s, sym(1, s))
		reads(t, s+"\n"+s, sym(1, s), sym(2, s))
		reads(t, "a"+s+"1", name(1, "a"), sym(1, s), number(1, 1))
	}
	reads(t, "...", sym(1, ".."), sym(1, "."))
	reads(t, "....", sym(1, ".."), sym(1, ".."))
	reads(t, ". ..", sym(1, "."), sym(1, ".."))
	reads(t, "<=>", sym(1, "<="), sym(1, ">"))
	reads(t, "<>=", sym(1, "<>"), sym(1, "="))
	reads(t, "==>", sym(1, "="), sym(1, "=>"))
	reads(t, "::=/=/==", sym(1, ":"), sym(1, ":="), sym(1, "/="), sym(1, "/="), sym(1, "="))
	reads(t, ">>=<", sym(1, ">"), sym(1, ">="), sym(1, "<"))
	reads(t, "= > : = . .", sym(1, "="), sym(1, ">"), sym(1, ":"), sym(1, "="), sym(1, "."), sym(1, "."))
	reads(t, "=\n>", sym(1, "="), sym(2, ">"))
	reads(t, "- -", sym(1, "-"), sym(1, "-"))
	reads(t, "-\n-", sym(1, "-"), sym(2, "-"))
}

// P2.2: integers: what follows them, leading zeros, their greatest length and value.
func TestIntegers(t *testing.T) {
	reads(t, "0 00 0000000000 007", number(1, 0), number(1, 0), number(1, 0), number(1, 7))
	reads(t, "2147483647 0123456789", number(1, 2147483647), number(1, 123456789))
	reads(t, "1..2", number(1, 1), sym(1, ".."), number(1, 2))
	reads(t, "1.2", number(1, 1), sym(1, "."), number(1, 2))
	reads(t, "1...2", number(1, 1), sym(1, ".."), sym(1, "."), number(1, 2))
	reads(t, "1-1", number(1, 1), sym(1, "-"), number(1, 1))
	for _, s := range []string{"2147483648", "9999999999", "00000000000", "02147483647", "10000000000", "1a", "1_", "1_000", "1e5", "0x1", "12if", strings.Repeat("0", 1000), "18446744073709551617"} {
		fails(t, s, 1, api.ErrToken)
		fails(t, "\n("+s+")", 2, api.ErrToken)
	}
}

// P2.2: comments: where they end and what they consist of.
func TestComments(t *testing.T) {
	reads(t, "--")
	reads(t, "--\na", name(2, "a"))
	reads(t, "a-- b -- c\nd", name(1, "a"), name(2, "d"))
	reads(t, "a --", name(1, "a"))
	reads(t, "a --- b\n-c", name(1, "a"), sym(2, "-"), name(2, "c"))
	reads(t, "- --\n", sym(1, "-"))
	reads(t, "1--2", number(1, 1))
	reads(t, "-- _ 1a $ 99999999999 \"#\n;", sym(2, ";"))
	for c := range 256 {
		b := string([]byte{byte(c)})
		switch {
		case c == '\n':
			reads(t, "a --"+b+" b", name(1, "a"), name(2, "b"))
		case c >= 32 && c <= 126:
			reads(t, "a\n--"+b+" b\nc", name(1, "a"), name(3, "c"))
			reads(t, "--"+b)
		default:
			fails(t, "a\n--"+b+" b\nc", 2, api.ErrToken)
			fails(t, "--x"+b, 1, api.ErrToken)
		}
	}
	fails(t, "-- \u00e9", 1, api.ErrToken)
	fails(t, "\n\n-- x\r\n", 3, api.ErrToken)
}

// P2.2: each byte that begins no token.
func TestBytes(t *testing.T) {
	skip := " \n"
	for c := range 256 {
		b := string([]byte{byte(c)})
		letter := c >= 'A' && c <= 'Z' || c >= 'a' && c <= 'z'
		digit := c >= '0' && c <= '9'
		switch {
		case letter:
			reads(t, b, name(1, b))
		case digit:
			reads(t, b, number(1, int64(c-'0')))
		case slices.Contains(symbols, b):
			reads(t, b, sym(1, b))
		case strings.Contains(skip, b):
			reads(t, b)
			reads(t, "a"+b+"b", name(1, "a"), name(1+strings.Count(b, "\n"), "b"))
		default:
			fails(t, b, 1, api.ErrToken)
			fails(t, "a\n ("+b, 2, api.ErrToken)
		}
	}
}

// P2.2: which of two errors comes first, and its line.
func TestFirstError(t *testing.T) {
	fails(t, "a $\n1a", 1, api.ErrToken)
	fails(t, "a\n1a\n$", 2, api.ErrToken)
	fails(t, "-- \x01\n$", 1, api.ErrToken)
	fails(t, "a;\n\n_ -- \x01", 3, api.ErrToken)
	full := strings.Repeat(";", 8192)
	reads(t, full, slices.Repeat([]api.Token{sym(1, ";")}, 8192)...)
	reads(t, full+" \n -- ;", slices.Repeat([]api.Token{sym(1, ";")}, 8192)...)
	fails(t, full+";", 1, api.ErrLong)
	fails(t, full+"\n\nend", 3, api.ErrLong)
	fails(t, full+"\n;$", 2, api.ErrLong)
	fails(t, full+"\n;\n1a", 2, api.ErrLong)
	fails(t, full+"\n$;", 2, api.ErrToken)
	fails(t, full+"\n1a ;", 2, api.ErrToken)
	fails(t, full+"\n-- \x01\n;", 2, api.ErrToken)
	fails(t, "$"+full+"\n;", 1, api.ErrToken)
	fails(t, strings.Repeat("x\n", 8193), 8193, api.ErrLong)
	fails(t, strings.Repeat("x\n", 8192)+"99999999999", 8193, api.ErrToken)
}

// P2.2: a text of the greatest length, and longer ones, whatever they consist of.
func TestLengths(t *testing.T) {
	reads(t, strings.Repeat(" ", 65535)+"a", name(1, "a"))
	reads(t, strings.Repeat("\n", 65535)+"a", name(65536, "a"))
	reads(t, "--"+strings.Repeat("-", 65534))
	fails(t, strings.Repeat("a", 65536), 1, api.ErrToken)
	fails(t, strings.Repeat("\n", 65535)+"$", 65536, api.ErrToken)
	for _, s := range []string{" ", "\n", "a", "$", "1a", ";", "-", "\x00", "\xff"} {
		fails(t, strings.Repeat(s, 65537), 0, api.ErrLong)
	}
	fails(t, "$"+strings.Repeat(" ", 65536), 0, api.ErrLong)
}

// P2.2: all short texts of some bytes, against the reference.
func TestShortTexts(t *testing.T) {
	bytes := "=>.:/<()-';|a1_ \n$\x80"
	var try func(s string, more int)
	try = func(s string, more int) {
		l, line, e := lex.Tokens(s)
		if m, at, why := split(s); !slices.Equal(l, m) || line != at || e != why {
			t.Fatalf("%q: %v %d %v, not %v %d %v", s, l, line, e, m, at, why)
		}
		for i := 0; more > 0 && i < len(bytes); i++ {
			try(s+bytes[i:i+1], more-1)
		}
	}
	try("", 4)
}

// P2.2: longer texts, against the reference; both outcomes must come often.
func TestSomeTexts(t *testing.T) {
	r := rand.New(rand.NewSource(2))
	good, bad := 0, 0
	for i := range 40000 {
		s := someText(r, i%2 == 0)
		l, line, e := lex.Tokens(s)
		if m, at, why := split(s); !slices.Equal(l, m) || line != at || e != why {
			t.Fatalf("%q: %v %d %v, not %v %d %v", s, l, line, e, m, at, why)
		}
		if e == api.OK {
			good++
		} else {
			bad++
		}
	}
	if good < 2000 || bad < 2000 {
		t.Error(good, bad)
	}
}

// R6: the tokens of a call are new memory.
func TestNewTokens(t *testing.T) {
	a, _, _ := lex.Tokens("a := 1;")
	a[0], a[1] = api.Token{}, api.Token{}
	reads(t, "a := 1;", name(1, "a"), sym(1, ":="), number(1, 1), sym(1, ";"))
}
