package lex_test

import (
	"slices"
	"strings"
	"testing"

	"ceiling/api"
	"ceiling/lex"
)

// P2.1: the reserved words, and what is nearly one.
func TestKeys(t *testing.T) {
	if len(reserved) != 63 {
		t.Fatal(len(reserved))
	}
	for _, s := range reserved {
		if !lex.Key(s) || lex.Name(s) || lex.Symbol(s) {
			t.Error(s)
		}
		for _, x := range []string{s[:len(s)-1], s[1:], s + "s", s + "_", "x" + s, strings.ToUpper(s), strings.ToUpper(s[:1]) + s[1:]} {
			if lex.Key(x) != slices.Contains(reserved, x) || lex.Name(x) == lex.Key(x) {
				t.Error(x)
			}
		}
		for _, x := range []string{s + " ", " " + s, s + "\n", s + "\x00", s + ";"} {
			if lex.Key(x) || lex.Name(x) || lex.Symbol(x) {
				t.Errorf("%q", x)
			}
		}
	}
}

// P2.1: names, at their greatest length and with each byte at each place.
func TestNames(t *testing.T) {
	for _, s := range []string{"X_1", "Begin", "a", "Z", "z", "A", "a_", "a__b", "IF", "endif", strings.Repeat("a", 32), "B" + strings.Repeat("_", 31)} {
		if !lex.Name(s) || lex.Key(s) || lex.Symbol(s) {
			t.Error(s)
		}
	}
	for _, s := range []string{"", "begin", "_", "_a", "1", "1a", "a b", " a", "a ", "a-b", "a.b", "\u00e9", "a\u00e9", "\u00e9a", "\u0430", "a\n", strings.Repeat("a", 33), strings.Repeat("a", 100000)} {
		if lex.Name(s) {
			t.Errorf("%q", s)
		}
	}
	for c := range 256 {
		b := string([]byte{byte(c)})
		letter := c >= 'A' && c <= 'Z' || c >= 'a' && c <= 'z'
		inside := letter || c >= '0' && c <= '9' || c == '_'
		if lex.Name(b) != letter || lex.Name("x"+b+"y") != inside || lex.Name("xy"+b) != inside {
			t.Errorf("%q", b)
		}
	}
}

// P2.1: the symbols, among all texts of at most two bytes.
func TestSymbols(t *testing.T) {
	if len(symbols) != 22 {
		t.Fatal(len(symbols))
	}
	n := 0
	for c := range 256 {
		for d := range 256 {
			b := string([]byte{byte(c), byte(d)})
			if lex.Symbol(b) != slices.Contains(symbols, b) {
				t.Errorf("%q", b)
			}
			if d == 0 && lex.Symbol(b[:1]) != slices.Contains(symbols, b[:1]) {
				t.Errorf("%q", b[:1])
			}
			if d == 0 && lex.Symbol(b[:1]) || lex.Symbol(b) {
				n++
			}
		}
	}
	for _, s := range []string{"", "...", "..=", "<=>", ":= ", "=>=>", "and", "-- "} {
		if lex.Symbol(s) {
			t.Errorf("%q", s)
		}
	}
	if n != 22 {
		t.Error(n)
	}
}

// P2.1: which tokens exist: each kind with each text and number.
func TestMay(t *testing.T) {
	texts := []string{"", "a", "A_9", strings.Repeat("q", 32), strings.Repeat("q", 33), "end", "End", "=>", "(", "--", "..", "...", "1", "_", " ", "a b", "\u00e9"}
	for kind := range 256 {
		for _, s := range texts {
			for _, n := range []int64{0, 1, -1, 2147483647, 2147483648, -1 << 63, 1<<63 - 1} {
				yes := false
				switch api.TokenKind(kind) {
				case api.TokName:
					yes = n == 0 && (s == "a" || s == "A_9" || s == "End" || s == strings.Repeat("q", 32))
				case api.TokKey:
					yes = n == 0 && s == "end"
				case api.TokSym:
					yes = n == 0 && (s == "=>" || s == "(" || s == "..")
				case api.TokInt:
					yes = s == "" && n >= 0 && n <= 2147483647
				}
				for _, line := range []int{0, 1, -5, 1 << 40} {
					if x := (api.Token{Kind: api.TokenKind(kind), Line: line, Text: s, N: n}); lex.May(x) != yes {
						t.Error(x)
					}
				}
			}
		}
	}
}

// P2.1: lists that differ in one field, in a length or in lines alone, whether their tokens exist or not.
func TestSame(t *testing.T) {
	var all []api.Token
	for kind := range api.TokenKind(6) {
		for _, s := range []string{"", "a", "end", ";"} {
			for _, n := range []int64{0, 1, -1} {
				all = append(all, api.Token{Kind: kind, Text: s, N: n})
			}
		}
	}
	for i, a := range all {
		for j, b := range all {
			b.Line = 7
			if lex.Same([]api.Token{a}, []api.Token{b}) != (i == j) || lex.Same([]api.Token{a, a}, []api.Token{a, b}) != (i == j) || lex.Same([]api.Token{a, b}, []api.Token{b, b}) != (i == j) {
				t.Error(a, b)
			}
		}
	}
	for n := range all {
		if lex.Same(all, all[:n]) || lex.Same(all[:n], all) || !lex.Same(all[:n], all[:n]) {
			t.Error(n)
		}
	}
	if !lex.Same(nil, []api.Token{}) || !lex.Same(nil, nil) || lex.Same(nil, []api.Token{{}}) {
		t.Error("empty lists")
	}
}
