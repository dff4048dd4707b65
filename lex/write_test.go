package lex_test

import (
	"math/rand"
	"slices"
	"strings"
	"testing"

	"ceiling/api"
	"ceiling/lex"
)

// listed returns the tokens that are spelt so, with a space between two.
func listed(s string) []api.Token {
	var l []api.Token
	for _, x := range strings.Fields(s) {
		t, _ := front(x)
		l = append(l, t)
	}
	return l
}

// missing are tokens that do not exist.
var missing = []api.Token{
	{}, {Text: "a"}, {Kind: 5, Text: "a"}, {Kind: 255}, name(1, ""), name(1, "if"), name(1, "1"), name(1, "_a"), name(1, "a b"), name(1, strings.Repeat("a", 33)),
	key(1, ""), key(1, "If"), key(1, "a"), key(1, "or else"), sym(1, ""), sym(1, "--"), sym(1, "..."), sym(1, "= "), sym(1, "a"), number(1, -1), number(1, 2147483648),
	{Kind: api.TokName, Text: "a", N: 1}, {Kind: api.TokKey, Text: "if", N: -1}, {Kind: api.TokSym, Text: ";", N: 1}, {Kind: api.TokInt, Text: "1", N: 1}, {Kind: api.TokInt, Text: ";"},
}

// P2.3: the chapter's examples of Text and Lines.
func TestExamplesOfTexts(t *testing.T) {
	for _, c := range [][2]string{
		{"F ( A , B . C )", "F (A, B.C)"}, {"X . . Y", "X. .Y"}, {"1 .. N", "1 .. N"}, {"P . Q ( ' )", "P.Q (')"},
	} {
		if s, e := lex.Text(listed(c[0])); s != c[1] || e != api.OK {
			t.Errorf("%q %v", s, e)
		}
	}
	if s, e := lex.Lines(nil); s != "" || e != api.OK {
		t.Error(s, e)
	}
	if s, e := lex.Lines([]api.Line{}); s != "" || e != api.OK {
		t.Error(s, e)
	}
	if s, e := lex.Lines([]api.Line{{Depth: 81}}); s != "" || e != api.ErrArg {
		t.Error(s, e)
	}
	if s, e := lex.Lines([]api.Line{{Depth: 1, L: []api.Token{key(0, "null"), sym(0, ";")}}}); s != "  null;\n" || e != api.OK {
		t.Error(s, e)
	}
}

// P2.3: which neighbours have a space between them: each pair of kinds and symbols.
func TestNeighbours(t *testing.T) {
	all := []api.Token{name(3, "a"), key(2, "end"), number(1, 0), number(0, 2147483647)}
	for _, s := range symbols {
		all = append(all, sym(0, s))
	}
	for _, a := range all {
		for _, b := range all {
			for _, c := range all {
				l := []api.Token{a, b, c}
				if s, e := lex.Text(l); s != joined(l) || e != api.OK {
					t.Fatalf("%v: %q %v", l, s, e)
				}
			}
		}
	}
	for s, want := range map[string]string{
		"":                        "",
		"a b":                     "a b",
		"a . b . all := - 5 ;":    "a.b.all := - 5;",
		"T ' ( 1 , others => 0 )": "T'(1, others => 0)",
		"( . )":                   "(.)",
		". .. . . ..":             ". .. . . ..",
		"1 . 2 ' . .":             "1.2'. .",
		". , . ; . - ( )":         ".,.;.- ()",
		"' ' : ' ; ;":             "'':';;",
	} {
		if x, e := lex.Text(listed(s)); x != want || e != api.OK {
			t.Errorf("%q %v, not %q", x, e, want)
		}
	}
}

// P2.3: an error of an argument comes ahead of an error of the length.
func TestMissingTokens(t *testing.T) {
	long := slices.Repeat([]api.Token{name(0, strings.Repeat("w", 32))}, 9)
	for i, x := range missing {
		for _, l := range [][]api.Token{{x}, {name(1, "a"), x}, {x, sym(1, ";")}, append(slices.Clone(long), x)} {
			if s, e := lex.Text(l); s != "" || e != api.ErrArg {
				t.Error(i, s, e)
			}
			if s, e := lex.Lines([]api.Line{{L: long}, {L: l}}); s != "" || e != api.ErrArg {
				t.Error(i, s, e)
			}
		}
	}
	if s, e := lex.Text(long); s != "" || e != api.ErrLong {
		t.Error(s, e)
	}
}

// P2.3: lines at the greatest length and above it, with and without an indentation.
func TestLongLines(t *testing.T) {
	plus := func(n int) []api.Token { return slices.Repeat([]api.Token{sym(0, "+")}, n) }
	for _, c := range []struct {
		depth int
		l     []api.Token
		n     int
	}{
		{0, plus(128), 255}, {0, append(plus(128), sym(0, ";")), 256}, {0, append(plus(128), sym(0, ";"), sym(0, ";")), 257}, {0, plus(129), 257}, {0, plus(5000), 9999},
		{1, plus(127), 255}, {1, append(plus(127), sym(0, ";")), 256}, {1, plus(128), 257},
		{80, plus(48), 255}, {80, append(plus(48), sym(0, ";")), 256}, {80, append(plus(48), number(0, 1)), 257}, {80, plus(49), 257}, {80, nil, 160},
		{0, slices.Repeat([]api.Token{sym(0, "'")}, 256), 256}, {0, slices.Repeat([]api.Token{sym(0, "'")}, 257), 257},
		{0, append(slices.Repeat([]api.Token{sym(0, "(")}, 246), number(0, 1000000000)), 256}, {0, append(slices.Repeat([]api.Token{sym(0, "(")}, 247), number(0, 1000000000)), 257},
	} {
		want, why := strings.Repeat(" ", 2*c.depth)+joined(c.l), api.OK
		if len(want) != c.n {
			t.Fatal(len(want), c.n)
		}
		line := want + "\n"
		if c.n > 256 {
			want, line, why = "", "", api.ErrLong
		}
		if s, e := lex.Lines([]api.Line{{Depth: c.depth, L: c.l}}); s != line || e != why {
			t.Errorf("%d %d: %q %v", c.depth, c.n, s, e)
		}
		if c.depth > 0 {
			continue
		}
		if s, e := lex.Text(c.l); s != want || e != why {
			t.Errorf("%d: %q %v", c.n, s, e)
		}
	}
}

// P2.3: depths, and errors of one line among others.
func TestDepths(t *testing.T) {
	for depth := -3; depth <= 200; depth++ {
		s, e := lex.Lines([]api.Line{{L: listed("a ;")}, {Depth: depth, L: listed("b")}, {Depth: depth}})
		indent, want, why := strings.Repeat(" ", 2*max(depth, 0)), "", api.OK
		want = "a;\n" + indent + "b\n" + indent + "\n"
		if depth < 0 || depth > 80 {
			want, why = "", api.ErrArg
		}
		if s != want || e != why {
			t.Errorf("%d: %q %v", depth, s, e)
		}
	}
	long := slices.Repeat([]api.Token{sym(0, "+")}, 129)
	for i, c := range []struct {
		l []api.Line
		e api.Errno
	}{
		{[]api.Line{{L: long}, {Depth: 81}}, api.ErrArg}, {[]api.Line{{L: long}, {Depth: -1}}, api.ErrArg}, {[]api.Line{{Depth: 1 << 62}}, api.ErrArg}, {[]api.Line{{Depth: -1 << 63}}, api.ErrArg},
		{[]api.Line{{}, {L: long}, {}}, api.ErrLong}, {append(slices.Repeat([]api.Line{{Depth: 80}}, 500), api.Line{Depth: 81}), api.ErrArg},
	} {
		if s, e := lex.Lines(c.l); s != "" || e != c.e {
			t.Error(i, len(s), e)
		}
	}
}

// P2.3: all lines together have at most 65536 bytes, their line feeds included.
func TestManyLines(t *testing.T) {
	for _, c := range []struct {
		l []api.Line
		n int
	}{
		{slices.Repeat([]api.Line{{}}, 65536), 65536}, {slices.Repeat([]api.Line{{}}, 65537), 65537},
		{append(slices.Repeat([]api.Line{{Depth: 80}}, 407), api.Line{Depth: 4}, api.Line{}), 65537}, {append(slices.Repeat([]api.Line{{Depth: 80}}, 407), api.Line{Depth: 4}), 65536},
		{slices.Repeat([]api.Line{{Depth: 80}}, 408), 65688}, {slices.Repeat([]api.Line{{L: listed("a")}}, 32768), 65536}, {slices.Repeat([]api.Line{{L: listed("a")}}, 32769), 65538},
	} {
		s, e := lex.Lines(c.l)
		if c.n > 65536 && (s != "" || e != api.ErrLong) || c.n <= 65536 && (len(s) != c.n || e != api.OK) {
			t.Error(c.n, len(s), e)
		}
	}
}

// P2.3: some lists of tokens and of lines, against the reference.
func TestSomeLines(t *testing.T) {
	r := rand.New(rand.NewSource(3))
	long := 0
	for range 5000 {
		var l []api.Line
		want, why := "", api.OK
		for range r.Intn(5) {
			x := api.Line{Depth: r.Intn(81), L: someTokens(r, 40)}
			l = append(l, x)
			s := strings.Repeat(" ", 2*x.Depth) + joined(x.L)
			if len(s) > 256 {
				why = api.ErrLong
			}
			want += s + "\n"
		}
		if why != api.OK {
			long++
			want = ""
		}
		if s, e := lex.Lines(l); s != want || e != why {
			t.Fatalf("%v: %q %v", l, s, e)
		}
	}
	if long < 500 || long > 4500 {
		t.Error(long)
	}
}

// R6: the arguments stay as they are.
func TestArgumentsStay(t *testing.T) {
	l := append(make([]api.Token, 0, 9), listed("F ( A , 12 )")...)
	old := slices.Clone(l[:cap(l)])
	lines := []api.Line{{Depth: 3, L: l}}
	lex.Text(l)
	lex.Lines(lines)
	lex.Same(l, l[:2])
	if !slices.Equal(l[:cap(l)], old) || lines[0].Depth != 3 || len(lines[0].L) != len(l) {
		t.Error(l, lines)
	}
}
