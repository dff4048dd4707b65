package lex_test

import (
	"math/rand"
	"slices"
	"strings"
	"testing"

	"ceiling/api"
	"ceiling/lex"
)

// P2.4: the tokens of the text of tokens are these tokens, and they have that text.
func TestTextIsRead(t *testing.T) {
	r := rand.New(rand.NewSource(4))
	written := 0
	for range 20000 {
		l := someTokens(r, 25)
		s, e := lex.Text(l)
		if e != api.OK {
			continue
		}
		written++
		m, line, e := lex.Tokens(s)
		if !lex.Same(l, m) || line != 0 || e != api.OK {
			t.Fatalf("%q: %v %d %v", s, m, line, e)
		}
		if again, e := lex.Text(m); again != s || e != api.OK {
			t.Fatalf("%q %q %v", s, again, e)
		}
	}
	if written < 5000 {
		t.Error(written)
	}
}

// P2.4: all pairs of tokens are read back.
func TestPairsAreRead(t *testing.T) {
	all := []api.Token{name(0, "a"), key(0, "or"), number(0, 5)}
	for _, s := range symbols {
		all = append(all, sym(0, s))
	}
	for _, a := range all {
		for _, b := range all {
			l := []api.Token{a, b}
			s, _ := lex.Text(l)
			if m, _, e := lex.Tokens(s); !slices.Equal(unlined(m), l) || e != api.OK {
				t.Errorf("%q: %v %v", s, m, e)
			}
		}
	}
}

// P2.4: the tokens of lines are those of each line, with its number.
func TestLinesAreRead(t *testing.T) {
	r := rand.New(rand.NewSource(5))
	for range 3000 {
		var l []api.Line
		var want []api.Token
		for i := range r.Intn(9) {
			x := api.Line{Depth: r.Intn(60), L: someTokens(r, 8)}
			l = append(l, x)
			want = append(want, moved(x.L, func(int) int { return i + 1 })...)
		}
		s, e := lex.Lines(l)
		if e != api.OK {
			continue
		}
		if m, _, e := lex.Tokens(s); !slices.Equal(m, want) || e != api.OK {
			t.Fatalf("%q: %v %v", s, m, e)
		}
	}
}

// P2.4: two texts with a line feed between them.
func TestTwoTexts(t *testing.T) {
	r := rand.New(rand.NewSource(6))
	for i := range 20000 {
		a, b := someText(r, i%4 == 0), someText(r, i%4 == 1)
		down := 1 + strings.Count(a, "\n")
		l, at, e := lex.Tokens(a)
		m, line, why := lex.Tokens(b)
		both, first, err := lex.Tokens(a + "\n" + b)
		switch {
		case e != api.OK:
			if len(both) != 0 || first != at || err != e {
				t.Fatalf("%q %q: %v %d %v", a, b, both, first, err)
			}
		case why != api.OK:
			if len(both) != 0 || first != line+down || err != why {
				t.Fatalf("%q %q: %v %d %v", a, b, both, first, err)
			}
		default:
			want := append(slices.Clone(l), moved(m, func(n int) int { return n + down })...)
			if !slices.Equal(both, want) || first != 0 || err != api.OK {
				t.Fatalf("%q %q: %v %d %v", a, b, both, first, err)
			}
		}
	}
}

// P2.4: a comment at the end of a line changes nothing.
func TestCommentsChangeNothing(t *testing.T) {
	r := rand.New(rand.NewSource(7))
	comments := []string{"--", "-- a", "--- end; $ 1a", "--\x7e\x20!"}
	for i := range 20000 {
		s := someText(r, i%4 == 0)
		lines := strings.Split(s, "\n")
		at := r.Intn(len(lines))
		if strings.HasSuffix(lines[at], "-") {
			continue // a hyphen in front of a comment would become a part of it
		}
		lines[at] += comments[r.Intn(len(comments))]
		l, line, e := lex.Tokens(s)
		m, first, why := lex.Tokens(strings.Join(lines, "\n"))
		if !slices.Equal(l, m) || line != first || e != why {
			t.Fatalf("%q, line %d: %v %d %v", s, at, m, first, why)
		}
	}
}
