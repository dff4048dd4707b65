package expr_test

import (
	"math/rand"
	"slices"
	"testing"

	"ceiling/api"
	"ceiling/expr"
)

// valid returns a valid random expression.
func (m maker) valid() api.Expr {
	for {
		if x := m.expr(1 + m.Intn(7)); may(x) {
			return x
		}
	}
}

// P3.4: reading the tokens of a valid expression returns it and all of its tokens, also if others follow that belong to nothing.
func TestWrittenIsRead(t *testing.T) {
	m := maker{rand.New(rand.NewSource(4))}
	all := append([]api.Expr{}, kinds...)
	for range 6000 {
		all = append(all, m.valid())
	}
	for _, x := range all {
		l, _ := expr.Tokens(x)
		for _, end := range []string{"", ";", ") + 1", "begin", "=> A", ".. A"} {
			if end == ".. A" && (expr.Level(x) < 2 || x.Kind == api.ExIf) {
				continue // it would go on with a test of membership
			}
			y, n, e := expr.Front(slices.Concat(l, lexed(t, end)), 0)
			if e != api.OK || n != len(l) || !expr.Same(x, y) || !same(x, y) {
				t.Fatalf("%q: %d %v", text(l), n, e)
			}
		}
		level := expr.Level(x)
		if expr.Named(x) {
			level = 6
		}
		if y, n, e := expr.Front(l, level); e != api.OK || n != len(l) || !expr.Same(x, y) {
			t.Fatalf("%q: %d %v", text(l), n, e)
		}
	}
}

// P3.4: the same of arguments and of choices.
func TestWrittenListsAreRead(t *testing.T) {
	m := maker{rand.New(rand.NewSource(5))}
	n := 0
	for range 10000 {
		args, list := m.args(1+m.Intn(4)), m.choices(1+m.Intn(4), true)
		if l, e := expr.ArgTokens(args); e == api.OK {
			x, k, e := expr.FrontArgs(l)
			if n++; e != api.OK || k != len(l) || !expr.SameArgs(x, args) {
				t.Fatal(text(l), k, e)
			}
		}
		if l, e := expr.ChoiceTokens(list); e == api.OK {
			x, k, e := expr.FrontChoices(l)
			if n++; e != api.OK || k != len(l) || !expr.SameChoices(x, list) {
				t.Fatal(text(l), k, e)
			}
		}
	}
	if n < 10000 {
		t.Error(n)
	}
}

// P3.4: the tokens of what was read are at most as many as were read, and read again they give the same.
func TestReadIsWritten(t *testing.T) {
	m := maker{rand.New(rand.NewSource(6))}
	extra := writer{func() bool { return m.Intn(5) == 0 }}
	read := 0
	for range 8000 {
		l := lexed(t, extra.part(m.valid(), 0))
		if m.Intn(2) == 0 {
			l = m.disturbed(l)
		}
		for level := range 7 {
			x, n, e := expr.Front(l, level)
			if e != api.OK {
				continue
			}
			read++
			k, e := expr.Tokens(x)
			if e != api.OK || len(k) > n {
				t.Fatalf("%q: %q %v", text(l), text(k), e)
			}
			if y, n, e := expr.Front(k, 0); e != api.OK || n != len(k) || !expr.Same(x, y) {
				t.Fatalf("%q: %d %v", text(k), n, e)
			}
		}
		if x, n, e := expr.FrontArgs(l); e == api.OK {
			k, _ := expr.ArgTokens(x)
			if y, m, e := expr.FrontArgs(k); len(k) > n || e != api.OK || m != len(k) || !expr.SameArgs(x, y) {
				t.Fatalf("%q: %q %v", text(l), text(k), e)
			}
		}
		if x, n, e := expr.FrontChoices(l); e == api.OK {
			k, _ := expr.ChoiceTokens(x)
			if y, m, e := expr.FrontChoices(k); len(k) > n || e != api.OK || m != len(k) || !expr.SameChoices(x, y) {
				t.Fatalf("%q: %q %v", text(l), text(k), e)
			}
		}
	}
	if read < 10000 {
		t.Error(read)
	}
}

// P3.4: parentheses around expressions, whole ones and parts, change nothing.
func TestParenthesesChangeNothing(t *testing.T) {
	m := maker{rand.New(rand.NewSource(7))}
	extra := writer{func() bool { return m.Intn(3) == 0 }}
	for range 10000 {
		x := m.valid()
		l := lexed(t, extra.part(x, m.Intn(7)))
		y, n, e := expr.Front(l, 0)
		if e != api.OK || n != len(l) || !expr.Same(x, y) {
			t.Fatalf("%q: %d %v", text(l), n, e)
		}
	}
}
