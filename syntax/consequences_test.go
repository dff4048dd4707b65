package syntax_test

import (
	"slices"
	"strings"
	"testing"

	"ceiling/api"
	"ceiling/lex"
	"ceiling/syntax"
)

// P5.4, and P5.2 against the reference: the lines of a valid unit, and reading their tokens.
func TestWrittenIsRead(t *testing.T) {
	m := newMaker(1)
	for range 800 {
		u := m.unit(m.Intn(60))
		writesUnit(t, u)
		l, _ := syntax.Lines(u)
		v, at, e := syntax.Parse(flat(l))
		if e != api.OK || at != 0 || !syntax.Same(u, v) || !same(u, v) {
			t.Fatalf("%d %v %s", at, e, text(flat(l)))
		}
	}
}

// writesUnit fails the test unless a valid unit is written as by the reference.
func writesUnit(t *testing.T, u api.Unit) {
	t.Helper()
	before := copied(u, false)
	l, e := syntax.Lines(u)
	want := plain.unit(u)
	if e != api.OK || len(l) != len(want) || !same(before, u) {
		t.Fatalf("%v\n%s\n%s", e, text(flat(l)), joined(want))
	}
	for i, x := range l {
		if x.Depth != want[i].depth || !slices.Equal(x.L, unlined(lexed(want[i].s))) {
			t.Fatalf("line %d: %d %q, not %d %q", i, x.Depth, text(x.L), want[i].depth, want[i].s)
		}
	}
}

// P5.3 and P5.4: other forms of a unit are read as the same, and so is what it is printed as.
func TestReadIsPrinted(t *testing.T) {
	m := newMaker(2)
	w := noisy(m)
	printed, other := 0, 0
	for range 800 {
		u := m.unit(m.Intn(40))
		src := joined(w.unit(u))
		v, line, e := syntax.Read(src)
		if e != api.OK || line != 0 || !same(u, v) || !syntax.May(v) {
			t.Fatalf("%d %v %s", line, e, src)
		}
		s, e := syntax.Print(v)
		if e != api.OK {
			continue
		}
		printed++
		if s != src {
			other++
		}
		again, line, e := syntax.Read(s)
		if p, f := syntax.Print(again); e != api.OK || line != 0 || f != api.OK || p != s || !syntax.Same(v, again) || !same(v, again) {
			t.Fatalf("%d %v %s", line, e, s)
		}
	}
	if printed < 500 || other < 300 {
		t.Error(printed, other)
	}
}

// P5.4: comments and line feeds change nothing but lines.
func TestLayout(t *testing.T) {
	m := newMaker(3)
	for range 500 {
		l := unlined(lexed(joined(plain.unit(m.unit(m.Intn(20))))))
		if m.Intn(3) == 0 {
			l = m.disturbed(l)
			if slices.ContainsFunc(l, func(t api.Token) bool { return !lex.May(t) }) {
				continue
			}
		}
		one := text(l)
		many := strings.ReplaceAll(one, " ", pick(m, "\n", " -- end\n", "\n\n", " \n --; begin\n"))
		u, line, e := syntax.Read(one)
		v, _, f := syntax.Read(many)
		if e != f || !syntax.Same(u, v) || !same(u, v) || line > 1 {
			t.Fatalf("%v %v %s", e, f, many)
		}
	}
}
