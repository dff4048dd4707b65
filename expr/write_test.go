package expr_test

import (
	"math/rand"
	"slices"
	"testing"

	"ceiling/api"
	"ceiling/expr"
)

// writes fails the test unless an expression has the tokens of a text.
func writes(t *testing.T, x api.Expr, s string) {
	t.Helper()
	if l, e := expr.Tokens(x); e != api.OK || !slices.Equal(l, unlined(lexed(t, s))) {
		t.Errorf("%q: %q %v", s, text(l), e)
	}
}

// P3.2: the tokens of each kind.
func TestTokensOfKinds(t *testing.T) {
	writes(t, two(api.OperAdd, a, one(api.OperNeg, b)), "A + (- B)") // the chapter's example
	writes(t, num(2147483647), "2147483647")
	writes(t, num(0), "0")
	writes(t, of(api.ExNull), "null")
	writes(t, a, "A")
	writes(t, with(api.ExSelect, "S", a), "A.S")
	writes(t, of(api.ExDeref, a), "A.all")
	writes(t, with(api.ExAttr, "First", a), "A'First")
	writes(t, call(a, value(num(1))), "A (1)")
	writes(t, call(a, value(of(api.ExIf, a, b, c)), when(aggr(value(a), value(b)), is(b)), when(two(api.OperOr, a, b), is(c))), "A ((if A then B else C), B => (A, B), C => A or B)")
	writes(t, of(api.ExQual, a, two(api.OperAnd, a, b)), "A'(A and B)")
	writes(t, of(api.ExQual, a, aggr(value(a), value(b))), "A'(A, B)")
	writes(t, of(api.ExQual, a, of(api.ExIf, a, b, c)), "A'(if A then B else C)")
	writes(t, of(api.ExQual, a, of(api.ExQual, b, c)), "A'(B'(C))")
	writes(t, with(api.ExAttr, "S", of(api.ExDeref, call(of(api.ExQual, with(api.ExSelect, "S", a), b), value(c)))), "A.S'(B)(C).all'S")
	writes(t, of(api.ExIf, two(api.OperOr, a, b), of(api.ExIn, a, b), of(api.ExIf, a, b, c)), "(if A or B then A in B else (if A then B else C))")
	writes(t, of(api.ExIn, a, b), "A in B")
	writes(t, of(api.ExNotIn, a, b), "A not in B")
	writes(t, of(api.ExIn, a, b, c), "A in B .. C")
	writes(t, of(api.ExNotIn, a, num(1), c), "A not in 1 .. C")
	for o, s := range operators {
		if o >= api.OperPos {
			writes(t, one(o, a), s+" A")
		} else {
			writes(t, two(o, a, b), "A "+s+" B")
		}
	}
}

// P3.2: associations and choices.
func TestTokensOfLists(t *testing.T) {
	rel := two(api.OperEq, a, b)
	writes(t, aggr(when(a, others)), "(others => A)")
	writes(t, aggr(value(rel), value(a)), "(A = B, A)")
	writes(t, aggr(value(a), when(b, is(rel), is(c)), when(c, span(num(1), a)), when(rel, others)), "(A, A = B | C => B, 1 .. A => C, others => A = B)")
	writes(t, aggr(when(a, span(rel, two(api.OperAnd, a, b)), span(two(api.OperAdd, a, b), one(api.OperNeg, a)))), "((A = B) .. (A and B) | A + B .. - A => A)")
	writes(t, aggr(when(a, is(of(api.ExIn, a, b, c)), is(two(api.OperElse, rel, a)))), "(A in B .. C | A = B or else A => A)")
	l, e := expr.ArgTokens([]api.Assoc{value(rel), when(num(1), is(c))})
	if e != api.OK || !slices.Equal(l, unlined(lexed(t, "A = B, C => 1"))) {
		t.Error(text(l), e)
	}
	l, e = expr.ChoiceTokens([]api.Choice{is(rel), span(a, rel), is(num(1))})
	if e != api.OK || !slices.Equal(l, unlined(lexed(t, "A = B | A .. (A = B) | 1"))) {
		t.Error(text(l), e)
	}
	l, e = expr.ChoiceTokens([]api.Choice{others})
	if e != api.OK || !slices.Equal(l, unlined(lexed(t, "others"))) {
		t.Error(text(l), e)
	}
}

// P3.2: parentheses around each kind of part of each kind, against the reference.
func TestParentheses(t *testing.T) {
	var parts []api.Expr
	parts = append(parts, kinds...)
	for o := range operators {
		if o >= api.OperPos {
			parts = append(parts, one(o, a))
		} else {
			parts = append(parts, two(o, a, b))
		}
	}
	n := 0
	for _, x := range parts {
		whole := []api.Expr{call(a, value(x), when(x, is(a))), of(api.ExQual, a, x), aggr(value(x), when(x, is(x), span(x, x)), when(x, others)), of(api.ExIf, x, x, x), of(api.ExIn, x, a), of(api.ExNotIn, x, x, x)}
		for o := range operators {
			if o >= api.OperPos {
				whole = append(whole, one(o, x))
				continue
			}
			for _, y := range parts {
				whole = append(whole, two(o, x, y))
			}
		}
		for _, y := range whole {
			writes(t, y, plain.expr(y))
			n++
		}
	}
	if n < 10000 {
		t.Error(n)
	}
	writes(t, two(api.OperAnd, two(api.OperAnd, a, b), two(api.OperAnd, a, b)), "A and B and (A and B)")
	writes(t, two(api.OperThen, two(api.OperAnd, a, b), c), "(A and B) and then C")
	writes(t, two(api.OperAnd, two(api.OperThen, a, b), c), "(A and then B) and C")
	writes(t, two(api.OperSub, one(api.OperNeg, a), one(api.OperAbs, b)), "- A - abs B")
	writes(t, two(api.OperMul, one(api.OperNot, a), one(api.OperPos, b)), "not A * (+ B)")
	writes(t, two(api.OperSub, two(api.OperSub, a, b), two(api.OperSub, a, b)), "A - B - (A - B)")
}

// P3.2: random expressions, valid or not, against the reference.
func TestRandomTokens(t *testing.T) {
	m := maker{rand.New(rand.NewSource(2))}
	good, bad := 0, 0
	for range 10000 {
		x := m.expr(1 + m.Intn(7))
		if m.Intn(4) == 0 {
			x = m.spoil(x)
		}
		before := copied(x, false)
		l, e := expr.Tokens(x)
		if !may(x) {
			if bad++; len(l) != 0 || e != api.ErrArg {
				t.Fatal(x, l, e)
			}
			continue
		}
		good++
		writes(t, x, plain.expr(x))
		x.Line, x.Ent, x.T = 5, 6, 7
		if k, _ := expr.Tokens(x); !slices.Equal(k, l) || !same(x, before) {
			t.Fatal(k, l)
		}
		lists(t, x)
	}
	if good < 3000 || bad < 300 {
		t.Error(good, bad)
	}
}

// lists fails the test unless the lists in an expression have the tokens of the reference.
func lists(t *testing.T, x api.Expr) {
	t.Helper()
	if l, e := expr.ArgTokens(x.A); !mayArgs(x.A) && (len(l) != 0 || e != api.ErrArg) || mayArgs(x.A) && (e != api.OK || text(l) != plain.assocs(x.A, false)) {
		t.Error(x.A, l, e)
	}
	for _, y := range x.A {
		ok := mayChoices(y.Choices)
		if l, e := expr.ChoiceTokens(y.Choices); !ok && (len(l) != 0 || e != api.ErrArg) || ok && (e != api.OK || text(l) != plain.choices(y.Choices)) {
			t.Error(y.Choices, l, e)
		}
	}
}

// P3.2: what is not valid has no tokens.
func TestTokensOfNone(t *testing.T) {
	for _, x := range []api.Expr{{}, num(-1), chain(33), sum(129), two(api.OperNot, a, a), {Kind: api.ExMonadic, Oper: api.OperNot}, aggr(value(a))} {
		if l, e := expr.Tokens(x); len(l) != 0 || e != api.ErrArg {
			t.Error(x.Kind, e)
		}
	}
	for _, l := range [][]api.Assoc{nil, {}, {when(a, others)}, {when(a, is(num(1)))}, {when(a, is(a)), value(a)}, make([]api.Assoc, 9), {value(chain(32))}} {
		if x, e := expr.ArgTokens(l); len(x) != 0 || e != api.ErrArg {
			t.Error(len(l), e)
		}
	}
	for _, l := range [][]api.Choice{nil, {}, {others, is(a)}, {{Kind: api.ChRange, L: []api.Expr{a}}}, make([]api.Choice, 17), {is(chain(33))}} {
		if x, e := expr.ChoiceTokens(l); len(x) != 0 || e != api.ErrArg {
			t.Error(len(l), e)
		}
	}
}
