package expr_test

import (
	"math/rand"
	"reflect"
	"slices"
	"strings"
	"testing"

	"ceiling/api"
	"ceiling/expr"
)

// reads fails the test unless the tokens of a text begin with an expression of n tokens.
func reads(t *testing.T, s string, level int, want api.Expr, n int) {
	t.Helper()
	if x, k, e := expr.Front(lexed(t, s), level); e != api.OK || k != n || !same(x, want) {
		t.Errorf("%q, level %d: %v %d %v", s, level, x, k, e)
	}
}

// ends fails the test unless reading a text ends at an index, or with ErrLong.
func ends(t *testing.T, s string, level, at int, why api.Errno) {
	t.Helper()
	if x, n, e := expr.Front(lexed(t, s), level); e != why || n != at || !reflect.DeepEqual(x, api.Expr{}) {
		t.Errorf("%q, level %d: %v %d %v", s, level, x, n, int(e))
	}
}

// P3.3: the chapter's examples.
func TestExamplesOfReading(t *testing.T) {
	reads(t, "A and B or C", 0, two(api.OperAnd, a, b), 3)
	reads(t, "A + B * C", 0, two(api.OperAdd, a, two(api.OperMul, b, c)), 5)
	reads(t, "- A + B", 2, two(api.OperAdd, one(api.OperNeg, a), b), 4)
	reads(t, "F (X, N => 1).all'First", 6, with(api.ExAttr, "First", of(api.ExDeref, call(name("F"), value(name("X")), when(num(1), is(name("N")))))), 12)
	reads(t, "X not in 1 .. 3", 0, of(api.ExNotIn, name("X"), num(1), num(3)), 6)
	reads(t, "(1 .. 2 | 4 => 0, others => 1)", 5, aggr(when(num(0), span(num(1), num(2)), is(num(4))), when(num(1), others)), 13)
	reads(t, "( A )", 5, a, 3)
	reads(t, "T ' ( A )", 6, of(api.ExQual, name("T"), a), 5)
	ends(t, "A +", 0, 2, api.ErrExpr)
	ends(t, "( A", 0, 2, api.ErrExpr)
	ends(t, ")", 0, 0, api.ErrExpr)
}

// P3.3: what each level reads of one text, and what it cannot begin with.
func TestLevels(t *testing.T) {
	ab := two(api.OperMul, a, b)
	s := "not A * B + C = A or C"
	nab := two(api.OperMul, one(api.OperNot, a), b)
	for level, want := range []api.Expr{
		two(api.OperOr, two(api.OperEq, two(api.OperAdd, nab, c), a), c), two(api.OperEq, two(api.OperAdd, nab, c), a), two(api.OperAdd, nab, c), nab, one(api.OperNot, a),
	} {
		reads(t, s, level, want, []int{10, 8, 6, 4, 2}[level])
	}
	ends(t, s, 5, 0, api.ErrExpr)
	ends(t, s, 6, 0, api.ErrExpr)
	for level := range 7 {
		reads(t, "A.B ; C", level, with(api.ExSelect, "B", a), 3)
		ends(t, "", level, 0, api.ErrExpr)
		ends(t, "then", level, 0, api.ErrExpr)
		if level == 6 {
			ends(t, "(A)", level, 0, api.ErrExpr)
			ends(t, "null", level, 0, api.ErrExpr)
			ends(t, "1", level, 0, api.ErrExpr)
		} else {
			reads(t, "(A * B) (C)", level, ab, 5)
			reads(t, "null.A", level, of(api.ExNull), 1)
			reads(t, "1'A", level, num(1), 1)
		}
		if level > 2 {
			ends(t, "- A", level, 0, api.ErrExpr)
		}
		if level > 4 {
			ends(t, "abs A", level, 0, api.ErrExpr)
		}
	}
	for _, level := range []int{-1, 7, 8, -1 << 63, 1<<63 - 1} {
		ends(t, "A", level, 0, api.ErrArg)
		ends(t, "", level, 0, api.ErrArg)
	}
}

// P3.3: operators: which are read, and where they end.
func TestOperatorsRead(t *testing.T) {
	for o, s := range operators {
		words := len(strings.Fields(s))
		if o >= api.OperPos {
			reads(t, s+" A", 0, one(o, a), 2)
			ends(t, s, 0, 1, api.ErrExpr)
			ends(t, s+" "+s+" A", 0, 1, api.ErrExpr)
			continue
		}
		x := two(o, a, b)
		reads(t, "A "+s+" B", 0, x, 2+words)
		ends(t, "A "+s, 0, 1+words, api.ErrExpr)
		ends(t, "A "+s+" ;", 0, 1+words, api.ErrExpr)
		for p, q := range operators {
			y := "A " + s + " B " + q + " C"
			switch {
			case p >= api.OperPos:
			case level(x) == 0 && level(two(p, a, b)) == 0 && o != p, level(x) == 1 && level(two(p, a, b)) == 1:
				reads(t, y, 0, x, 2+words)
			case level(x) < level(two(p, a, b)):
				reads(t, y, 0, two(o, a, two(p, b, c)), 3+words+len(strings.Fields(q)))
			default:
				reads(t, y, 0, two(p, x, c), 3+words+len(strings.Fields(q)))
			}
		}
	}
	reads(t, "A and B and then C", 0, two(api.OperAnd, a, b), 3)
	reads(t, "A and then B and C", 0, two(api.OperThen, a, b), 4)
	reads(t, "A or B or else C", 0, two(api.OperOr, a, b), 3)
	ends(t, "A and else B", 0, 2, api.ErrExpr)
	ends(t, "A or then B", 0, 2, api.ErrExpr)
	ends(t, "A xor then B", 0, 2, api.ErrExpr)
	reads(t, "A then B", 0, a, 1)
	reads(t, "A abs B", 0, a, 1)
	reads(t, "A not B", 0, a, 1)
	ends(t, "A * - B", 0, 2, api.ErrExpr)
	ends(t, "A + - B", 0, 2, api.ErrExpr)
	reads(t, "A = - B", 0, two(api.OperEq, a, one(api.OperNeg, b)), 4)
	reads(t, "- abs A", 0, one(api.OperNeg, one(api.OperAbs, a)), 3)
	ends(t, "abs - A", 0, 1, api.ErrExpr)
}

// P3.3: in and not in.
func TestMembership(t *testing.T) {
	reads(t, "A in B", 0, of(api.ExIn, a, b), 3)
	reads(t, "A in (B)", 0, of(api.ExIn, a, b), 5)
	reads(t, "A in B'(1)", 0, of(api.ExIn, a, of(api.ExQual, b, num(1))), 7)
	reads(t, "A in B in C", 0, of(api.ExIn, a, b), 3)
	reads(t, "A in B = C", 0, of(api.ExIn, a, b), 3)
	reads(t, "A not in B and C", 0, two(api.OperAnd, of(api.ExNotIn, a, b), c), 6)
	reads(t, "A in B .. C .. A", 0, of(api.ExIn, a, b, c), 5)
	reads(t, "A in - 1 .. C + 1", 0, of(api.ExIn, a, one(api.OperNeg, num(1)), two(api.OperAdd, c, num(1))), 8)
	for _, s := range []string{"1", "null", "- B", "B + C", "abs B", "(B + C)", "(if A then B else C)", "(A, B)", "(1)"} {
		l := len(lexed(t, s))
		ends(t, "A in "+s, 0, 2+l, api.ErrExpr)
		ends(t, "A not in "+s+" = C", 1, 3+l, api.ErrExpr)
		reads(t, "A in "+s+" .. C", 1, of(api.ExIn, a, first(t, s), c), 4+l)
	}
	ends(t, "A in", 0, 2, api.ErrExpr)
	ends(t, "A not in", 0, 3, api.ErrExpr)
	ends(t, "A in B ..", 0, 4, api.ErrExpr)
	ends(t, "A in B .. in", 0, 4, api.ErrExpr)
	reads(t, "A not", 0, a, 1)
	reads(t, "A in B", 2, a, 1)
}

// first returns the expression that a text is.
func first(t *testing.T, s string) api.Expr {
	t.Helper()
	x, _, e := expr.Front(lexed(t, s), 0)
	if e != api.OK {
		t.Fatal(s, e)
	}
	return x
}

// P3.3: names, their suffixes and arguments.
func TestNamesRead(t *testing.T) {
	reads(t, "A . B . all . C", 6, with(api.ExSelect, "C", of(api.ExDeref, with(api.ExSelect, "B", a))), 7)
	reads(t, "A'B'C", 6, with(api.ExAttr, "C", with(api.ExAttr, "B", a)), 5)
	reads(t, "A (B) (C)", 6, call(call(a, value(b)), value(c)), 7)
	reads(t, "A ((B => C))", 6, call(a, value(aggr(when(c, is(b))))), 8)
	reads(t, "A ((B), C => (B))", 6, call(a, value(b), when(b, is(c))), 12)
	reads(t, "A'((B))", 6, of(api.ExQual, a, b), 7)
	reads(t, "A'((B, C))", 6, of(api.ExQual, a, aggr(value(b), value(c))), 9)
	reads(t, "A'(B => C)'(if A then B else C).A", 6, with(api.ExSelect, "A", of(api.ExQual, of(api.ExQual, a, aggr(when(c, is(b)))), of(api.ExIf, a, b, c))), 18)
	reads(t, "A B", 6, a, 1)
	reads(t, "A.B.all all", 6, of(api.ExDeref, with(api.ExSelect, "B", a)), 5)
	for s, at := range map[string]int{
		"A.": 2, "A.1": 2, "A.'": 2, "A.if": 2, "A.(B)": 2, "A'": 2, "A'1": 2, "A'all": 2, "A'range": 2, "A''B": 2, "A (": 2, "A ()": 2, "A (B": 3, "A (B;": 3, "A (B,)": 4, "A (B,": 4, "A (B C)": 3,
		"A (B => )": 4, "A (1 => B)": 3, "A (B.C => B)": 5, "A ((B) => C)": 5, "A (B | C => 1)": 3, "A (B .. C)": 3, "A (others => 1)": 2, "A (B => C => A)": 5, "A'(B": 4, "A'()": 3, "A'(B .. C)": 6, "A (B = C = A)": 5,
	} {
		ends(t, s, 6, at, api.ErrExpr)
		ends(t, s, 0, at, api.ErrExpr)
	}
}

// P3.3: parentheses, aggregates and conditional expressions.
func TestParenthesesRead(t *testing.T) {
	rel := two(api.OperEq, a, b)
	reads(t, "(((A)))", 5, a, 7)
	reads(t, "(A).B", 5, a, 3)
	reads(t, "((A, B), C)", 5, aggr(value(aggr(value(a), value(b))), value(c)), 9)
	reads(t, "(others => A)", 5, aggr(when(a, others)), 5)
	reads(t, "(A = B)", 5, rel, 5)
	reads(t, "(A = B => C)", 5, aggr(when(c, is(rel))), 7)
	reads(t, "(A or B | C in A => C)", 5, aggr(when(c, is(two(api.OperOr, a, b)), is(of(api.ExIn, c, a)))), 11)
	reads(t, "((A = B) .. C => C)", 5, aggr(when(c, span(rel, c))), 11)
	reads(t, "(A in B .. C => C)", 5, aggr(when(c, is(of(api.ExIn, a, b, c)))), 9)
	reads(t, "(1, - A .. + B | C => A)", 0, aggr(value(num(1)), when(a, span(one(api.OperNeg, a), one(api.OperPos, b)), is(c))), 13)
	reads(t, "(1, A, B => C, others => 1)", 5, aggr(value(num(1)), value(a), when(c, is(b)), when(num(1), others)), 13)
	reads(t, "(if A = B then (C) else A or C)", 5, of(api.ExIf, rel, c, two(api.OperOr, a, c)), 14)
	for s, at := range map[string]int{
		"(": 1, "()": 1, "(A": 2, "(A;": 2, "(A,": 3, "(A,)": 3, "(A B)": 2, "(A |": 3, "(A | )": 3, "(A |)": 3, "(A | B)": 4, "(A | B, C)": 4, "(A =>": 3, "(A => )": 3, "(A => B": 4, "(A => B | C)": 4, "(A => B => C)": 4,
		"(1 ..": 3, "(1 .. 2": 4, "(1 .. 2)": 4, "(1 .. 2, 3)": 4, "(1 .. 2 | 3)": 6, "(1 .. 2 | 3 .. 4)": 8, "(1 .. 2 .. 3 => 1)": 4, "(A = B .. C => 1)": 4, "(A .. B = C => 1)": 4, "(A or B .. C => 1)": 4,
		"(others": 2, "(others)": 2, "(others, A)": 2, "(others | A => 1)": 2, "(others =>": 3, "(others => )": 3, "(others .. 1 => 1)": 2, "(A | others)": 4, "(A, others)": 4,
		"(if": 2, "(if A": 3, "(if A)": 3, "(if A then": 4, "(if A then B": 5, "(if A then B)": 5, "(if A then B else": 6, "(if A then B else )": 6, "(if A then B else C": 7, "(if A then B else C, A)": 7, "(if A then B else C => A)": 7, "(A, if B then C else A)": 3,
	} {
		ends(t, s, 5, at, api.ErrExpr)
		ends(t, s, 0, at, api.ErrExpr)
	}
	ends(t, "if A then B else C", 0, 0, api.ErrExpr)
}

// P3.3: what is read but is not valid; an error of the tokens counts more.
func TestInvalidRead(t *testing.T) {
	for _, s := range []string{
		"(X => 1, 2)", "(others => 1, X => 2)", "(others => 1, others => 2)", "(A | others => 1)", "A (B => 1, 2)", "A (1, B => 2, 3)",
		"A (1, 2, 3, 4, 5, 6, 7, 8, 9)", "(" + strings.Repeat("1, ", 32) + "1)", "(" + strings.Repeat("1 | ", 16) + "1 => 1)",
		strings.Repeat("A + ", 128) + "A", "A" + strings.Repeat(".all", 32), strings.Repeat("A (", 32) + "1" + strings.Repeat(")", 32), strings.Repeat("- (", 32) + "A" + strings.Repeat(")", 32),
	} {
		ends(t, s, 0, 0, api.ErrLong)
		ends(t, "("+s+") ; B", 5, 0, api.ErrLong)
		ends(t, "("+s, 0, 1+len(lexed(t, s)), api.ErrExpr)
		ends(t, "B = ("+s+") + ;", 0, 5+len(lexed(t, s)), api.ErrExpr)
	}
	for _, s := range []string{
		"A (1, 2, 3, 4, 5, 6, 7, 8)", "(" + strings.Repeat("1, ", 31) + "1)", "(" + strings.Repeat("1 | ", 15) + "1 => 1)",
		strings.Repeat("A + ", 127) + "A", "A" + strings.Repeat(".all", 31), strings.Repeat("A (", 31) + "1" + strings.Repeat(")", 31), strings.Repeat("- (", 31) + "A" + strings.Repeat(")", 31), strings.Repeat("(", 3000) + "A" + strings.Repeat(")", 3000),
	} {
		l := lexed(t, s)
		want, n, e := front(l, 0)
		if strings.Contains(s, "A + A") {
			if x, n, e := expr.Front(l[:2*32-1], 0); e != api.OK || n != 63 || expr.Size(x) != 63 {
				t.Error(n, e)
			}
			ends(t, s, 0, 0, api.ErrLong) // as a chain, this is too deep
			continue
		}
		if e != api.OK || n != len(l) {
			t.Fatal(s, n, e)
		}
		reads(t, s, 0, want, n)
	}
}

// P3.3: tokens that do not exist are looked at by their kind, and by their number or text alone.
func TestOddTokens(t *testing.T) {
	sym := func(s string) api.Token { return api.Token{Kind: api.TokSym, Text: s, N: 77} }
	key := func(s string) api.Token { return api.Token{Kind: api.TokKey, Text: s, N: -1} }
	word := func(s string) api.Token { return api.Token{Kind: api.TokName, Text: s, N: 5} }
	digit := func(n int64) api.Token { return api.Token{Kind: api.TokInt, Text: "(", N: n} }
	for i, x := range []struct {
		l []api.Token
		n int
		e api.Errno
	}{
		{[]api.Token{digit(5), sym("+"), digit(2147483647)}, 3, api.OK},
		{[]api.Token{digit(-1)}, 0, api.ErrLong},
		{[]api.Token{digit(2147483648), sym("+"), word("A")}, 0, api.ErrLong},
		{[]api.Token{digit(-1), sym("+")}, 2, api.ErrExpr},
		{[]api.Token{word("if")}, 0, api.ErrLong},
		{[]api.Token{word("")}, 0, api.ErrLong},
		{[]api.Token{word("A"), sym("."), word("all")}, 0, api.ErrLong},
		{[]api.Token{word("A"), sym("("), word("mod"), sym("=>"), digit(1), sym(")")}, 0, api.ErrLong},
		{[]api.Token{word("A"), word("mod"), word("B")}, 1, api.OK},
		{[]api.Token{word("A"), sym("mod"), word("B")}, 1, api.OK},
		{[]api.Token{word("A"), key("+"), word("B")}, 1, api.OK},
		{[]api.Token{word("A"), key("and then"), word("B")}, 1, api.OK},
		{[]api.Token{word("A"), key("and"), sym("then"), word("B")}, 2, api.ErrExpr},
		{[]api.Token{word("A"), key("mod"), word("B")}, 3, api.OK},
		{[]api.Token{word("A"), key("not in"), word("B")}, 1, api.OK},
		{[]api.Token{word("A"), key("not"), key("in"), word("B")}, 4, api.OK},
		{[]api.Token{word("A"), key("."), word("B")}, 1, api.OK},
		{[]api.Token{key("("), word("A"), key(")")}, 0, api.ErrExpr},
		{[]api.Token{sym("null")}, 0, api.ErrExpr},
		{[]api.Token{key("null")}, 1, api.OK},
		{[]api.Token{{}}, 0, api.ErrExpr},
		{[]api.Token{{Kind: 5, Text: "A"}}, 0, api.ErrExpr},
		{[]api.Token{{Kind: 255, Text: "("}, word("A")}, 0, api.ErrExpr},
		{[]api.Token{word("A"), {}}, 1, api.OK},
		{[]api.Token{word("A"), sym("("), {}, sym(")")}, 2, api.ErrExpr},
		{[]api.Token{word("A"), {Text: "+"}, word("B")}, 1, api.OK},
	} {
		if y, n, e := expr.Front(x.l, 0); n != x.n || e != x.e || (e == api.OK) != (y.Kind != api.NoExpr) {
			t.Error(i, n, int(e))
		}
		compared(t, x.l)
	}
}

// P3.3: Line is that of the first token, without the parentheses around the expression.
func TestLinesRead(t *testing.T) {
	lines := func(s string) string {
		x, _, e := expr.Front(lexed(t, s), 0)
		if e != api.OK {
			t.Fatal(s, e)
		}
		var out []byte
		var walk func(*api.Expr)
		walk = func(x *api.Expr) {
			out = append(out, byte('0'+x.Line))
			inside(x, walk)
		}
		walk(&x)
		return string(out)
	}
	for s, want := range map[string]string{
		"1": "1", "\n\nnull": "3", "\n(\nA\n)": "3", "(\n(A)\n+\nB)": "224", "A\n+\nB\n*\nC": "11335", "\n-\nA": "23", "not\n(\nA\n)": "13", "(-\nA)\n+ B": "1123",
		"A\n.\nB\n'\nC": "111", "A\n(\nB\n,\nC\n=>\nA)": "11357", "A'\n(\nB)": "113", "A'\n(\nB,\nC)": "11234", "(\n(A,\nB)\n)": "223", "(A\n..\nB\n|\nC\n=>\n1)": "11357",
		"(others\n=>\nA)": "13", "\n(\nif A then\nB else\nC)": "2345", "A\nin\nB": "113", "(\nA)\nnot\nin\nB\n..\nC": "2257", "(\nA).B": "2",
	} {
		if got := lines(s); got != want {
			t.Errorf("%q: %s, not %s", s, got, want)
		}
	}
	l := []api.Token{{Kind: api.TokName, Text: "A", Line: -5}}
	if x, _, _ := expr.Front(l, 0); x.Line != -5 || x.Ent != 0 || x.T != 0 {
		t.Error(x)
	}
}

// P3.3: arguments and choices alone.
func TestListsRead(t *testing.T) {
	for s, want := range map[string]struct {
		args, choices string
		n, m          int
	}{
		"A, X => 1 + 2; B": {"A , X => 1 + 2", "A", 7, 1}, "1 | A .. B => C": {"1", "1 | A .. B", 1, 5}, "others => 1": {"", "others", 0, 1}, "A = B | C": {"A = B", "A = B | C", 3, 5}, "A .. B .. C": {"A", "A .. B", 1, 3},
		"(A)": {"A", "A", 3, 3}, "(A, B)": {"( A , B )", "( A , B )", 5, 5}, "A in B .. C | C": {"A in B .. C", "A in B .. C | C", 5, 7},
		"": {"", "", 0, 0}, "A,": {"", "A", 2, 1}, "A |": {"A", "", 1, 2}, "A => B": {"A => B", "A", 3, 1}, "A =>": {"", "A", 2, 1}, "A ..": {"A", "", 1, 2}, "A => B, C": {"", "A", 0, 1}, "A | others": {"A", "", 1, 0}, "others | A": {"", "", 0, 0}, "others | ,": {"", "", 0, 2},
	} {
		l := lexed(t, s)
		x, n, e := expr.FrontArgs(l)
		if y, _ := expr.ArgTokens(x); text(y) != want.args || n != want.n || (want.args != "") != (e == api.OK) {
			t.Errorf("%q: %q %d %v", s, text(y), n, e)
		}
		z, m, e := expr.FrontChoices(l)
		if y, _ := expr.ChoiceTokens(z); text(y) != want.choices || m != want.m || (want.choices != "") != (e == api.OK) {
			t.Errorf("%q: %q %d %v", s, text(y), m, e)
		}
		compared(t, l)
	}
	for n := 1; n < 20; n++ {
		_, k, e := expr.FrontArgs(lexed(t, "A"+strings.Repeat(", A", n-1)))
		if n <= 8 && (k != 2*n-1 || e != api.OK) || n > 8 && (k != 0 || e != api.ErrLong) {
			t.Error(n, k, e)
		}
		_, k, e = expr.FrontChoices(lexed(t, "A"+strings.Repeat("| A", n-1)))
		if n <= 16 && (k != 2*n-1 || e != api.OK) || n > 16 && (k != 0 || e != api.ErrLong) {
			t.Error(n, k, e)
		}
	}
	nested := func(n int) []api.Token { return lexed(t, "A"+strings.Repeat(".all", n-1)) }
	if _, n, e := expr.FrontArgs(nested(31)); n != 61 || e != api.OK {
		t.Error(n, e)
	}
	if _, n, e := expr.FrontArgs(nested(32)); n != 0 || e != api.ErrLong {
		t.Error(n, e)
	}
	if _, n, e := expr.FrontChoices(nested(32)); n != 63 || e != api.OK {
		t.Error(n, e)
	}
	if _, n, e := expr.FrontChoices(nested(33)); n != 0 || e != api.ErrLong {
		t.Error(n, e)
	}
}

// compared fails the test unless tokens are read as by the reference, lines included.
func compared(t *testing.T, l []api.Token) {
	t.Helper()
	for level := range 7 {
		x, n, e := expr.Front(l, level)
		if y, m, f := front(l, level); n != m || e != f || !reflect.DeepEqual(copied(x, false), copied(y, false)) {
			t.Errorf("%q, level %d: %v %d %v, not %v %d %v", text(l), level, x, n, e, y, m, f)
		}
	}
	x, n, e := expr.FrontArgs(l)
	if y, m, f := frontArgs(l); n != m || e != f || !reflect.DeepEqual(copied(aggr(x...), false), copied(aggr(y...), false)) {
		t.Errorf("%q: %v %d %v, not %v %d %v", text(l), x, n, e, y, m, f)
	}
	z, n, e := expr.FrontChoices(l)
	if y, m, f := frontChoices(l); n != m || e != f || !reflect.DeepEqual(copied(aggr(when(a, z...)), false), copied(aggr(when(a, y...)), false)) {
		t.Errorf("%q: %v %d %v, not %v %d %v", text(l), z, n, e, y, m, f)
	}
}

// P3.3: all lists of up to three tokens out of the alphabet.
func TestShortLists(t *testing.T) {
	l := make([]api.Token, 0, 3)
	var more func()
	more = func() {
		compared(t, l)
		if len(l) == 3 || t.Failed() {
			return
		}
		for _, x := range alphabet {
			l = append(l, x)
			more()
			l = l[:len(l)-1]
		}
	}
	more()
}

// P3.3: random lists of tokens, and lists that are nearly those of an expression.
func TestRandomLists(t *testing.T) {
	m := maker{rand.New(rand.NewSource(3))}
	for range 3000 {
		var l []api.Token
		for range m.Intn(9) {
			l = append(l, alphabet[m.Intn(len(alphabet))])
		}
		compared(t, m.lines(l))
		extra := writer{func() bool { return m.Intn(9) == 0 }}
		l = lexed(t, extra.part(m.expr(1+m.Intn(6)), 0))
		compared(t, m.lines(l))
		compared(t, m.lines(m.disturbed(l)))
		compared(t, m.lines(append([]api.Token{{Kind: api.TokName, Text: "F"}}, m.disturbed(l)...)))
		if t.Failed() {
			return
		}
	}
}

// P3.3: tokens are neither changed nor looked at behind their end, and results share no memory.
func TestMemory(t *testing.T) {
	all := lexed(t, "A (B, C => 1) + (1 .. 2 | 3 => 4, others => 5) * (if A then B else C) and X in 1 .. 2")
	before := slices.Clone(all)
	x, n, _ := expr.Front(all, 0)
	y, _, _ := expr.Front(all, 0)
	var spoil func(*api.Expr)
	spoil = func(e *api.Expr) {
		inside(e, spoil)
		for _, l := range [][]api.Expr{e.L[:cap(e.L)]} {
			clear(l)
		}
		for _, s := range e.A {
			clear(s.Choices[:cap(s.Choices)])
		}
		clear(e.A[:cap(e.A)])
	}
	kept := copied(y, false)
	spoil(&x)
	if n != len(all) || !slices.Equal(all, before) || !reflect.DeepEqual(copied(y, false), kept) {
		t.Error("another result, or the tokens, have changed")
	}
	if x, n, e := expr.Front(all[:1], 0); n != 1 || e != api.OK || x.Kind != api.ExName {
		t.Error(x, n, e)
	}
	if _, n, e := expr.Front(all[:2], 0); n != 2 || e != api.ErrExpr {
		t.Error(n, e)
	}
	apart(t, y)
	l, _, _ := expr.FrontArgs(lexed(t, "(A, B), C => (others => 1)"))
	apart(t, aggr(l...))
	k, _, _ := expr.FrontChoices(lexed(t, "A | B + C | 1 .. 2 | C"))
	apart(t, aggr(when(a, k...)))
}

// apart fails the test if two slices in an expression share memory.
func apart(t *testing.T, e api.Expr) {
	t.Helper()
	var spans [][2]uintptr
	note := func(l any, size uintptr) {
		v := reflect.ValueOf(l)
		from := v.Pointer()
		to := from + uintptr(v.Cap())*size
		for _, s := range spans {
			if from < s[1] && s[0] < to {
				t.Error("shared memory")
			}
		}
		spans = append(spans, [2]uintptr{from, to})
	}
	var walk func(*api.Expr)
	walk = func(x *api.Expr) {
		note(x.L, reflect.TypeFor[api.Expr]().Size())
		note(x.A, reflect.TypeFor[api.Assoc]().Size())
		for _, s := range x.A {
			note(s.Choices, reflect.TypeFor[api.Choice]().Size())
			for _, c := range s.Choices {
				note(c.L, reflect.TypeFor[api.Expr]().Size())
			}
		}
		inside(x, walk)
	}
	walk(&e)
}

// P3.3: forms that are nested deeper than calls can be, and long ones.
func TestDeepLists(t *testing.T) {
	small(t)
	const depth = 50000
	times := func(s string) []api.Token { return slices.Repeat(lexed(t, s), depth) }
	reading := func(what string, n int, e api.Errno, pieces ...[]api.Token) {
		t.Helper()
		l := slices.Concat(pieces...)
		if _, k, f := expr.Front(l, 0); k != n || f != e {
			t.Errorf("%s: %d %v", what, k, f)
		}
	}
	x, close := lexed(t, "A"), times(")")
	if y, n, e := expr.Front(slices.Concat(times("("), x, close), 5); n != 2*depth+1 || e != api.OK || !same(y, a) {
		t.Error(n, e)
	}
	reading("open", depth, api.ErrExpr, times("("))
	reading("not closed", 2*depth, api.ErrExpr, times("("), x, close[1:])
	reading("calls", 0, api.ErrLong, times("A ("), x, close)
	reading("calls that are not closed", 2*depth, api.ErrExpr, times("A ("))
	reading("qualified", 0, api.ErrLong, times("A'("), x, close)
	reading("signs", 0, api.ErrLong, times("- ("), x, close)
	reading("aggregates", 0, api.ErrLong, times("(A, "), x, close)
	reading("associations", 0, api.ErrLong, times("(A => "), x, close)
	reading("choices", 0, api.ErrLong, times("(A | "), x, times("=> A)"))
	reading("ranges", 3*depth+1, api.ErrExpr, times("(A .. "), x, times(")"))
	reading("conditions", 0, api.ErrLong, times("(if A then B else "), x, close)
	reading("first operands", 0, api.ErrLong, times("("), x, times("+ A)"))
	reading("a sum", 0, api.ErrLong, times("A +"), x)
	reading("a sum without an end", 2*depth, api.ErrExpr, times("A +"))
	reading("a chain", 0, api.ErrLong, times("A and then"), x)
	reading("suffixes", 0, api.ErrLong, x, times(".A"))
	reading("a list", 0, api.ErrLong, lexed(t, "(A"), times(", A"), lexed(t, ")"))
	if _, n, e := expr.FrontArgs(slices.Concat(times("A,"), x)); n != 0 || e != api.ErrLong {
		t.Error(n, e)
	}
	if _, n, e := expr.FrontChoices(slices.Concat(times("A |"), x)); n != 0 || e != api.ErrLong {
		t.Error(n, e)
	}
	if _, n, e := expr.FrontChoices(times("A |")); n != 2*depth || e != api.ErrExpr {
		t.Error(n, e)
	}
}
