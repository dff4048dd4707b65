package shape_test

import (
	"reflect"
	"slices"
	"strings"
	"testing"

	"ceiling/api"
	"ceiling/shape"
)

// reads fails the test unless a text begins with something of n tokens.
func (k kind[T]) reads(t *testing.T, s string, want T, n int) {
	t.Helper()
	if x, m, e := k.front(lexed(s)); e != api.OK || m != n || !same(x, want) {
		t.Errorf("%q: %v %d %v", s, x, m, e)
	}
}

// ends fails the test unless reading a text ends at an index with an error.
func (k kind[T]) ends(t *testing.T, s string, at int, why api.Errno) {
	t.Helper()
	x, n, e := k.front(lexed(s))
	if e != why || n != at || !reflect.ValueOf(x).IsZero() {
		t.Errorf("%q: %v %d %v", s, x, n, e)
	}
}

// misses does so for each text of a list, with ErrShape.
func (k kind[T]) misses(t *testing.T, l map[string]int) {
	t.Helper()
	for s, at := range l {
		k.ends(t, s, at, api.ErrShape)
	}
}

// P4.3: indications: the chapter's examples, what ends them, and what is missing.
func TestIndicationsRead(t *testing.T) {
	tt := ex("T")
	indics.reads(t, "Integer range 1 .. 10", api.Indic{Name: ex("Integer"), Lo: ex("1"), Hi: ex("10")}, 5)
	indics.reads(t, "P.Rec (A + 1)", api.Indic{Name: ex("P.Rec"), Value: ex("A + 1")}, 8)
	indics.reads(t, "T'First", indic("T"), 1)
	indics.reads(t, "T ((A, B))", api.Indic{Name: tt, Value: ex("(A, B)")}, 8)
	indics.reads(t, "T (A) (B)", api.Indic{Name: tt, Value: ex("A")}, 4)
	indics.reads(t, "T (A and B) range 1 .. 2", api.Indic{Name: tt, Value: ex("A and B")}, 6)
	indics.reads(t, "T range (A = B) .. - A + 2 (1)", api.Indic{Name: tt, Lo: ex("A = B"), Hi: ex("- A + 2")}, 12)
	indics.reads(t, "T range A'First .. A'Last = B", api.Indic{Name: tt, Lo: ex("A'First"), Hi: ex("A'Last")}, 9)
	indics.reads(t, "T range 1 .. 2 range 3 .. 4", api.Indic{Name: tt, Lo: ex("1"), Hi: ex("2")}, 5)
	for _, end := range []string{"T", "; T", ":= 1", "is", ".. 2", ", T", ")", "1", "all", "+ 1"} {
		indics.reads(t, "T "+end, indic("T"), 1)
		indics.reads(t, "P.Q.T "+end, indic("P.Q.T"), 5)
	}
	indics.misses(t, map[string]int{
		"": 0, "1": 0, "(T)": 0, "null": 0, "range 1 .. 2": 0, "P.": 2, "P.all": 2, "P.1": 2, "P.Q.range": 4, "T range": 2, "T range 1": 3, "T range 1 ..": 4, "T range ..": 2, "T range 1 .. )": 4, "T range A = B .. 2": 3, "T range 1, 2": 3,
		"T range <>": 2, "T (": 2, "T ()": 2, "T (A": 3, "T (A;": 3, "T (A, B)": 3, "T (A .. B)": 3, "T (A => 1)": 3, "T (others => 1)": 2, "T (A +)": 4, "T range 1 .. T (A": 7,
	})
	indics.reads(t, "P..Q", indic("P"), 1)
}

// P4.3: discrete ranges.
func TestDiscreteRangesRead(t *testing.T) {
	tt, one, n := ex("T"), ex("1"), ex("N")
	discs.reads(t, "1 .. N", api.Disc{Lo: one, Hi: n}, 3)
	discs.reads(t, "A'Index", api.Disc{Name: ex("A'Index")}, 3)
	discs.reads(t, "T range 1 .. N )", api.Disc{Name: tt, Lo: one, Hi: n}, 5)
	discs.reads(t, "T .. N range 1 .. 2", api.Disc{Lo: tt, Hi: n}, 3)
	discs.reads(t, "P.T", api.Disc{Name: ex("P.T")}, 3)
	discs.reads(t, "(T)", api.Disc{Name: tt}, 3)
	discs.reads(t, "(T) range (1) .. (N)", api.Disc{Name: tt, Lo: one, Hi: n}, 11)
	discs.reads(t, "(A (1)'B) range 1 .. 2", api.Disc{Name: ex("A (1)'B")}, 8)
	discs.reads(t, "A'First .. A'Last", api.Disc{Lo: ex("A'First"), Hi: ex("A'Last")}, 7)
	discs.reads(t, "T (1) .. P.all", api.Disc{Lo: ex("T (1)"), Hi: ex("P.all")}, 8)
	discs.reads(t, "(A = B) .. (A or B)", api.Disc{Lo: ex("A = B"), Hi: ex("A or B")}, 11)
	discs.reads(t, "T'Index range 1 .. 2", api.Disc{Name: ex("T'Index")}, 3)
	discs.reads(t, "- A + 1 .. abs B * 2 = C", api.Disc{Lo: ex("- A + 1"), Hi: ex("abs B * 2")}, 9)
	discs.reads(t, "T = 1", api.Disc{Name: tt}, 1)
	discs.reads(t, "1 .. 2 .. 3", api.Disc{Lo: one, Hi: ex("2")}, 3)
	discs.misses(t, map[string]int{
		"": 0, "range": 0, ";": 0, "1": 1, "1;": 1, "1 range 1 .. 2": 1, "T (1)": 4, "T (1) range 1 .. 2": 4, "P.all": 3, "T'(1)": 5, "- T": 2, "A + B": 3, "(A, B)": 5, "null": 1, "(A = B)": 5, "not A'B": 4, "A'B + 1": 5,
		"1 ..": 2, "1 .. )": 2, "1 .. 2 +": 4, "T range": 2, "T range 1": 3, "T range 1 ..": 4, "T range 1, 2": 3, "T range A = B": 3, "P.": 2, "T (": 2, "A +": 2,
	})
}

// P4.3: parameters: groups, modes and values.
func TestParametersRead(t *testing.T) {
	group := func(mode api.ModeKind, mark string, names ...string) api.Param {
		return api.Param{Names: names, Mode: mode, Type: ex(mark)}
	}
	value := group(api.ModeIn, "T", "B", "C")
	value.E = ex("1")
	params.reads(t, "A : in out T; B, C : T := 1 )", []api.Param{group(api.ModeInOut, "T", "A"), value}, 13)
	params.reads(t, "A : T", []api.Param{group(api.ModeIn, "T", "A")}, 3)
	params.reads(t, "A : in P.T", []api.Param{group(api.ModeIn, "P.T", "A")}, 6)
	params.reads(t, "A : out T", []api.Param{group(api.ModeOut, "T", "A")}, 4)
	params.reads(t, "B, C : in T := 1 := 2", []api.Param{value}, 8)
	params.reads(t, "A : T range 1 .. 2", []api.Param{group(api.ModeIn, "T", "A")}, 3)
	params.reads(t, "A : T (1)", []api.Param{group(api.ModeIn, "T", "A")}, 3)
	params.reads(t, "A : T, B : T", []api.Param{group(api.ModeIn, "T", "A")}, 3)
	params.misses(t, map[string]int{
		"": 0, ")": 0, "1": 0, "in": 0, "A": 1, "A T": 1, "A,": 2, "A, :": 2, "A, 1 : T": 2, "A B : T": 1, "A :": 2, "A : )": 2, "A : in": 3, "A : out": 3, "A : in out": 4, "A : out in T": 3, "A : in in T": 3, "A : in out in T": 4, "A : out out T": 3,
		"A : 1": 2, "A : access T": 2, "A : P.": 4, "A : P.all": 4, "A : T :=": 4, "A : T := )": 4, "A : T := 1 +": 6, "A : T;": 4, "A : T; )": 4, "A : T;;": 4, "A : T; B": 5, "A : T := 1; B : T := ;": 10, "A : constant T": 2,
		"A, B : out P.T; C : in T := 1;": 16,
	})
	params.ends(t, "A : out T := 1", 0, api.ErrLong)
	params.ends(t, "A : in out T := 1; B : T", 0, api.ErrLong)
	params.ends(t, "A : in out T := 1; B", 9, api.ErrShape)
}

// P4.3: aspects.
func TestAspectsRead(t *testing.T) {
	aspects.reads(t, "A => 1, B => C or D is", []api.Aspect{{Name: "A", E: ex("1")}, {Name: "B", E: ex("C or D")}}, 9)
	aspects.reads(t, "A => (B => 1), B => 2;", []api.Aspect{{Name: "A", E: ex("(B => 1)")}, {Name: "B", E: ex("2")}}, 11)
	aspects.reads(t, "A => B => C", []api.Aspect{{Name: "A", E: ex("B")}}, 3)
	aspects.misses(t, map[string]int{"": 0, "is": 0, "1 => 2": 0, "A": 1, "A =": 1, "A.B => 1": 1, "A =>": 2, "A => ;": 2, "A => 1,": 4, "A => 1, is": 4, "A => 1, B": 5, "A => 1, B =>": 6, "A => 1 +, B": 4})
}

// P4.3: components.
func TestComponentsRead(t *testing.T) {
	a := api.Comp{Names: []string{"A"}, Sub: indic("T")}
	b := api.Comp{Names: []string{"B", "C"}, Sub: api.Indic{Name: ex("P.T"), Lo: ex("1"), Hi: ex("2")}, E: ex("A = B")}
	comps.reads(t, "A : T; B, C : P.T range 1 .. 2 := A = B; end", []api.Comp{a, b}, 4+16)
	comps.reads(t, "null; A : T;", nil, 2)
	comps.reads(t, "A : T; null;", []api.Comp{a}, 4)
	comps.reads(t, "A : T; 1", []api.Comp{a}, 4)
	comps.reads(t, "A : T (A) := B;", []api.Comp{{Names: []string{"A"}, Sub: api.Indic{Name: ex("T"), Value: ex("A")}, E: ex("B")}}, 9)
	comps.misses(t, map[string]int{
		"": 0, "end": 0, ";": 0, "case": 0, "null": 1, "null record": 1, "A": 1, "A,": 2, "A, : T;": 2, "A B": 1, "A : ": 2, "A : in T;": 2, "A : T": 3, "A : T, B": 3, "A : T range 1;": 5, "A : T := ;": 4, "A : T := 1": 5, "A : T := 1 + ;": 6, "A : T'First;": 3,
		"A : T; B": 5, "A : T; B;": 5, "A : T; B : T": 7, "A : T; B : 1": 6, "A : array (1 .. 2) of T;": 2,
	})
}

// P4.3: type definitions; the chapter's examples, and each form cut off and with a wrong token.
func TestDefinitionsRead(t *testing.T) {
	enum := api.TypeDef{Kind: api.TdEnum, Names: []string{"Red", "Green"}}
	types.reads(t, "(Red, Green) ; ", enum, 5)
	types.reads(t, "limited private private", api.TypeDef{Kind: api.TdPrivate, Limited: true}, 2)
	types.reads(t, "private record", api.TypeDef{Kind: api.TdPrivate}, 1)
	types.reads(t, "null record end record", api.TypeDef{Kind: api.TdRecord}, 2)
	types.reads(t, "record end record;", api.TypeDef{Kind: api.TdRecord}, 3)
	types.reads(t, "record null; end record", api.TypeDef{Kind: api.TdRecord}, 5)
	types.reads(t, "range 1 .. 2 .. 3", api.TypeDef{Kind: api.TdRange, Lo: ex("1"), Hi: ex("2")}, 4)
	types.reads(t, "new T (1)", api.TypeDef{Kind: api.TdDerived, Sub: api.Indic{Name: ex("T"), Value: ex("1")}}, 5)
	types.reads(t, "access P.T range 1 .. 2", api.TypeDef{Kind: api.TdAccess, Sub: api.Indic{Name: ex("P.T"), Lo: ex("1"), Hi: ex("2")}}, 8)
	types.reads(t, "array (T) of T range 1 .. 2", api.TypeDef{Kind: api.TdArray, Disc: api.Disc{Name: ex("T")}, Sub: api.Indic{Name: ex("T"), Lo: ex("1"), Hi: ex("2")}}, 10)
	arm := api.VarArm{Choices: ofExprs("1")}
	types.reads(t, "record A : T; case D is when 1 => null ; end case ; end record", api.TypeDef{Kind: api.TdRecord, Comps: []api.Comp{{Names: []string{"A"}, Sub: indic("T")}}, Var: "D", Arms: []api.VarArm{arm}}, 18)
	types.reads(t, "record null; case D is when 1 => null; end case; end record", api.TypeDef{Kind: api.TdRecord, Var: "D", Arms: []api.VarArm{arm}}, 16)
	types.misses(t, map[string]int{
		"": 0, "T": 0, "1": 0, ")": 0, "is": 0, "(": 1, "()": 1, "(A": 2, "(A;": 2, "(A,": 3, "(A, )": 3, "(1)": 1, "(A .. B)": 2, "(<>)": 1, "range": 1, "range 1": 2, "range 1 ..": 3, "range <>": 1, "range A = 1 .. 2": 2, "new": 1, "new 1": 1, "new P.": 3,
		"array": 1, "array 1": 1, "array (": 2, "array (1)": 3, "array (1) of T": 3, "array (T": 3, "array (T, T)": 3, "array (T)": 4, "array (T) T": 4, "array (T) of": 5, "array (T) of array": 5, "access": 1, "access all T": 1,
		"limited": 1, "limited T": 1, "limited record": 1, "limited limited private": 1, "null": 1, "null;": 1, "record": 1, "record record": 1, "record null": 2, "record null record": 2, "record null;": 3, "record null; null;": 3, "record null; A : T;": 3,
		"record A": 2, "record A : T": 4, "record A : T;": 5, "record A : T; null;": 5, "record end": 2, "record end;": 2, "record end case": 2,
		"record case": 2, "record case 1": 2, "record case D.E is": 3, "record case D": 3, "record case D is": 4, "record case D is end case;": 4, "record case D is when": 5, "record case D is when => null;": 5, "record case D is when 1": 6, "record case D is when 1 |": 7, "record case D is when 1 | =>": 7,
		"record case D is when 1 ..": 7, "record case D is when 1 =>": 7, "record case D is when 1 => end": 7, "record case D is when 1 => case": 7, "record case D is when 1 => null": 8, "record case D is when 1 => null;": 9, "record case D is when 1 => null; null;": 9, "record case D is when 1 => A : T": 10,
		"record case D is when 1 => null; when": 10, "record case D is when 1 => null; A : T;": 9, "record case D is when 1 => null; end": 10, "record case D is when 1 => null; end record": 10, "record case D is when 1 => null; end case": 11, "record case D is when 1 => null; end case end": 11,
		"record case D is when 1 => null; end case;": 12, "record case D is when 1 => null; end case; A : T;": 12, "record case D is when 1 => null; end case; case": 12, "record case D is when 1 => null; end case; end": 13, "record case D is when 1 => null; end case; end case": 13,
	})
}

// P4.3: what is read but is not valid; and of what layer 3 reads, at once.
func TestInvalidRead(t *testing.T) {
	names := func(n int) string { return strings.Repeat("A, ", n-1) + "A" }
	mark := func(n int) string { return strings.Repeat("A.", n-1) + "A" }
	groups := func(n, size int) string { return strings.Repeat(names(size)+" : T; ", n) }
	record := func(first, second string) string {
		return "record " + first + " case D is when 1 => " + second + " end case; end record"
	}
	long := func(n int) string { return strings.Repeat("A + ", n-1) + "A" }
	for s, ok := range map[string]bool{
		"(" + names(64) + ")": true, "(" + names(65) + ")": false, "new " + mark(32): true, "new " + mark(33): false, "access T range 1 .. " + mark(32): true, "access T range 1 .. " + mark(33): false, "array (" + mark(33) + ") of T": false,
		"record " + groups(4, 8) + "end record": true, "record " + groups(5, 8) + "end record": false, "record " + groups(1, 9) + "end record": false, "record " + groups(33, 1) + "end record": false,
		record(groups(3, 8), groups(1, 8)): true, record(groups(4, 8), groups(1, 1)): false, record("", groups(4, 8)): true, record("", groups(5, 7)): false, record("", groups(1, 9)): false,
		"record case D is " + strings.Repeat("when 1 => null; ", 16) + "end case; end record": true, "record case D is " + strings.Repeat("when 1 => null; ", 17) + "end case; end record": false,
		record("", "null; when 1 | others => null;"): false, record("", "null; when others => null; when 2 => null;"): true, record("", "null; when 1"+strings.Repeat("| 1", 15)+" => null;"): true, record("", "null; when 1"+strings.Repeat("| 1", 16)+" => null;"): false,
		"range 1 .. " + long(32): true, "range 1 .. " + long(33): false, "new T (" + long(33) + ")": false,
	} {
		l := lexed(s)
		_, n, e := shape.FrontType(l)
		if ok && (n != len(l) || e != api.OK) || !ok && (n != 0 || e != api.ErrLong) {
			t.Errorf("%q: %d %v", s, n, e)
		}
	}
	for n := 1; n < 40; n++ {
		all := n
		want := func(ok bool, tokens int, n int, e api.Errno) {
			t.Helper()
			if ok && (n != tokens || e != api.OK) || !ok && (n != 0 || e != api.ErrLong) {
				t.Error(all, n, e)
			}
		}
		_, k, e := shape.FrontParams(lexed(names(n) + " : T"))
		want(n <= 8, 2*n+1, k, e)
		_, k, e = shape.FrontParams(lexed("A : T" + strings.Repeat("; A : T", n-1)))
		want(n <= 8, 4*n-1, k, e)
		_, k, e = shape.FrontAspects(lexed("A => 1" + strings.Repeat(", A => 1", n-1)))
		want(n <= 8, 4*n-1, k, e)
		_, k, e = shape.FrontComps(lexed(groups(n, 1)))
		want(n <= 32, 4*n, k, e)
		_, k, e = shape.FrontComps(lexed(groups(1, n)))
		want(n <= 8, 2*n+2, k, e)
		_, k, e = shape.FrontIndic(lexed(mark(n)))
		want(n <= 32, 2*n-1, k, e)
		_, k, e = shape.FrontDisc(lexed(mark(n) + " range 1 .. 2"))
		want(n <= 32, 2*n+3, k, e)
	}
	// An expression that is too large ends reading; anything else is found too large only when all is read.
	indics.ends(t, "T range "+long(33)+" , 2", 0, api.ErrLong)
	indics.ends(t, mark(33)+" range 1 , 2", 67, api.ErrShape)
	discs.ends(t, mark(33)+" range 1 , 2", 0, api.ErrLong)
	discs.ends(t, long(33)+" ;", 0, api.ErrLong)
	params.ends(t, "A : T := "+long(33)+"; ;", 0, api.ErrLong)
	params.ends(t, names(9)+" : T; ;", 20, api.ErrShape)
	aspects.ends(t, "A => "+long(33)+", 1", 0, api.ErrLong)
	comps.ends(t, "A : T := "+long(33)+" )", 0, api.ErrLong)
	comps.ends(t, groups(33, 1)+"A ;", 4*33+1, api.ErrShape)
	types.ends(t, "record case D is when 1 | others => ) end", 0, api.ErrLong)
	types.ends(t, "("+names(65)+" ;", 130, api.ErrShape)
}

// P4.3: tokens that do not exist are looked at by their kind, and by their number or text alone.
func TestOddTokens(t *testing.T) {
	sym := func(s string) api.Token { return api.Token{Kind: api.TokSym, Text: s, N: 77} }
	key := func(s string) api.Token { return api.Token{Kind: api.TokKey, Text: s, N: -1} }
	word := func(s string) api.Token { return api.Token{Kind: api.TokName, Text: s, N: 5} }
	digit := func(n int64) api.Token { return api.Token{Kind: api.TokInt, Text: "(", N: n} }
	for i, x := range []struct {
		l []api.Token
		n int
		e api.Errno
	}{
		{[]api.Token{key("range"), digit(1), sym(".."), digit(2)}, 4, api.OK},
		{[]api.Token{sym("range"), digit(1), sym(".."), digit(2)}, 0, api.ErrShape},
		{[]api.Token{word("range"), digit(1), sym(".."), digit(2)}, 0, api.ErrShape},
		{[]api.Token{key("range"), digit(-1), sym(".."), digit(2)}, 0, api.ErrLong},
		{[]api.Token{key("range"), digit(1), key(".."), digit(2)}, 2, api.ErrShape},
		{[]api.Token{sym("("), word("A"), sym(")")}, 3, api.OK},
		{[]api.Token{sym("("), word("if"), sym(")")}, 0, api.ErrLong},
		{[]api.Token{sym("("), word(""), sym(")")}, 0, api.ErrLong},
		{[]api.Token{sym("("), word("if"), sym(";")}, 2, api.ErrShape},
		{[]api.Token{key("("), word("A"), sym(")")}, 0, api.ErrShape},
		{[]api.Token{sym("("), word("A"), key(")")}, 2, api.ErrShape},
		{[]api.Token{sym("("), word("A"), {Text: ")"}}, 2, api.ErrShape},
		{[]api.Token{digit(1), word("A"), sym(")")}, 0, api.ErrShape},
		{[]api.Token{key("new"), word("P"), sym("."), word("of")}, 0, api.ErrLong},
		{[]api.Token{key("new"), word("P"), sym("."), key("of")}, 3, api.ErrShape},
		{[]api.Token{key("new"), word("P"), key("."), word("T")}, 2, api.OK},
		{[]api.Token{key("new"), {Kind: 5, Text: "P"}}, 1, api.ErrShape},
		{[]api.Token{key("private")}, 1, api.OK},
		{[]api.Token{sym("private")}, 0, api.ErrShape},
		{[]api.Token{{}}, 0, api.ErrShape},
		{[]api.Token{{Kind: 255, Text: "private"}}, 0, api.ErrShape},
	} {
		if y, n, e := shape.FrontType(x.l); n != x.n || e != x.e || (e == api.OK) != (y.Kind != api.NoTypeDef) {
			t.Error(i, n, int(e))
		}
		compareAll(t, x.l)
	}
}

// P4.3: Line of groups, marks and expressions.
func TestLinesRead(t *testing.T) {
	l, _, _ := shape.FrontParams(lexed("\nA\n,B\n: in\nP.\nT := \n\n1;\nC : out T"))
	if len(l) != 2 || l[0].Line != 2 || l[0].Type.Line != 5 || l[0].Type.L[0].Line != 5 || l[0].E.Line != 8 || l[1].Line != 9 || l[1].Type.Line != 9 || l[1].E.Line != 0 {
		t.Error(l)
	}
	c, _, _ := shape.FrontComps(lexed("A\n:\nT\n(\n1\n)\n;\n\nB : T\nrange\nA\n..\nB := \nC;"))
	if len(c) != 2 || c[0].Line != 1 || c[0].Sub.Name.Line != 3 || c[0].Sub.Value.Line != 5 || c[1].Line != 9 || c[1].Sub.Name.Line != 9 || c[1].Sub.Lo.Line != 11 || c[1].Sub.Hi.Line != 13 || c[1].E.Line != 14 {
		t.Error(c)
	}
	d, _, _ := shape.FrontType([]api.Token{{Kind: api.TokKey, Text: "new", Line: 1}, {Kind: api.TokName, Text: "T", Line: -9}})
	if d.Sub.Name.Line != -9 || d.Sub.Name.Ent != 0 || d.Sub.Name.T != 0 {
		t.Error(d)
	}
}

// compare fails the test unless tokens are read as by the reference, lines included.
func (k kind[T]) compare(t *testing.T, l []api.Token) {
	t.Helper()
	x, n, e := k.front(l)
	if y, m, f := parsed(l, k); n != m || e != f || !reflect.DeepEqual(copied(x, false), copied(y, false)) {
		t.Fatalf("%T of %q: %v %d %v, not %v %d %v", x, text(l), x, n, e, y, m, f)
	}
}

func compareAll(t *testing.T, l []api.Token) {
	t.Helper()
	for _, k := range kinds {
		k.compare(t, l)
	}
}

// P4.3: all lists of up to three tokens out of the alphabet.
func TestShortLists(t *testing.T) {
	l := make([]api.Token, 0, 3)
	var more func()
	more = func() {
		compareAll(t, l)
		if len(l) == 3 {
			return
		}
		for _, x := range alphabet {
			l = append(l, x)
			more()
			l = l[:len(l)-1]
		}
	}
	more()
}

// P4.3: all beginnings of what is valid, with each token of the alphabet behind them.
func TestBeginnings(t *testing.T) {
	for _, s := range []string{
		"P.T range A - 1 .. (A = B)", "P.T (A and B)", "A.B (1)'Index", "A, B : in out P.T; C : T := A = B", "A => B or C, B => 1", "A, B : P.T range 1 .. 2 := A = B; C : T (1); null;", "(A, B)", "array (T range 1 .. 2) of T (A)", "limited private",
		"record null; end record", "record A : T; B : T := 1; case D is when 1 | A .. B => null; when others => A, B : T; C : T; end case; end record",
	} {
		l := lexed(s)
		for n := range len(l) + 1 {
			compareAll(t, l[:n])
			for _, x := range alphabet {
				compareAll(t, append(slices.Clone(l[:n]), x))
				if n < len(l) {
					compareAll(t, slices.Concat(l[:n], []api.Token{x}, l[n:]))
					compareAll(t, slices.Concat(l[:n], []api.Token{x}, l[n+1:]))
				}
			}
		}
	}
}

// P4.3: random lists of tokens, and lists that are nearly those of something valid.
func TestRandomLists(t *testing.T) {
	for _, k := range kinds {
		k.randomLists(t)
	}
}

func (k kind[T]) randomLists(t *testing.T) {
	m := newMaker(3)
	some := writer{func() bool { return m.Intn(5) == 0 }}
	for range 2000 {
		l := lexed(joined(k.write(some, valid(m, k), 0)))
		k.compare(t, m.lines(l))
		k.compare(t, m.lines(m.disturbed(l)))
		k.compare(t, m.lines(m.disturbed(slices.Concat(l, l))))
	}
}

// P4.3: tokens are neither changed nor looked at behind their end, and results share no memory.
func TestMemory(t *testing.T) {
	indics.memory(t, "P.T range A + 1 .. F (X, N => 1)")
	discs.memory(t, "P.T range A + 1 .. F (X, N => 1)")
	params.memory(t, "A, B, C : P.T := (1, 2); D, E : T := F (A, B)")
	aspects.memory(t, "A => F (1), B => F (2), C => F (3)")
	comps.memory(t, "A, B, C : P.T (F (1)) := F (2); D, E : P.T range F (1) .. F (2); F : T;")
	types.memory(t, "record A, B, C : P.T (F (1)) := F (2); case D is when 1 | F (2) => D, E : T; F : T; when 1 | F (1) .. 2 => D : T; when others => null; end case; end record")
	types.memory(t, "(A, B, C, D, E)")
}

func (k kind[T]) memory(t *testing.T, s string) {
	t.Helper()
	all := lexed(s)
	l := slices.Concat(all, lexed(". ; , | when A + B"))
	before := slices.Clone(l)
	x, n, e := k.front(l[:len(all)])
	if n != len(all) || e != api.OK || !slices.Equal(l, before) {
		t.Errorf("%q: %d %v", s, n, e)
	}
	apart(t, x)
	y, _, _ := k.front(l[:len(all)])
	apart(t, []T{x, y})
	for n := range all {
		k.compare(t, l[:n])
	}
	out, _ := k.lines(x, 0)
	again, _ := k.lines(x, 0)
	apart(t, [][]api.Line{out, again})
}

// P4.3: forms that are nested deeper than calls can be, and long ones.
func TestDeepLists(t *testing.T) {
	small(t)
	const depth = 50000
	times := func(s string) []api.Token { return slices.Repeat(lexed(s), depth) }
	reading := func(n int, e api.Errno, pieces ...[]api.Token) {
		t.Helper()
		if _, m, f := shape.FrontType(slices.Concat(pieces...)); m != n || f != e {
			t.Error(m, f)
		}
	}
	reading(0, api.ErrLong, lexed("("), times("A,"), lexed("A)"))
	reading(2*depth+1, api.ErrShape, lexed("("), times("A,"))
	reading(0, api.ErrLong, lexed("new A"), times(". A"))
	reading(2*depth+3, api.ErrShape, lexed("new A"), times(". A"), lexed("."))
	reading(0, api.ErrLong, lexed("access A ("), times("("), lexed("A"), times("+ 1)"), lexed(")"))
	reading(depth+3, api.ErrShape, lexed("access A ("), times("("))
	reading(2*depth+4, api.OK, lexed("range"), times("("), lexed("A"), times(")"), lexed(".. B end"))
	reading(0, api.ErrLong, lexed("record"), times("A : T;"), lexed("end record"))
	reading(4*depth+1, api.ErrShape, lexed("record"), times("A : T;"))
	reading(0, api.ErrLong, lexed("record case D is"), times("when 1 => null;"), lexed("end case; end record"))
	reading(5*depth+6, api.ErrShape, lexed("record case D is"), times("when 1 => null;"), lexed("end case end record"))
	reading(0, api.ErrLong, lexed("record case D is when 1"), times("| 1"), lexed("=> null; end case; end record"))
	if _, n, e := shape.FrontParams(slices.Concat(times("A : in T;"), lexed("A : out T"))); n != 0 || e != api.ErrLong {
		t.Error(n, e)
	}
	if _, n, e := shape.FrontAspects(times("A => 1,")); n != 4*depth || e != api.ErrShape {
		t.Error(n, e)
	}
	if _, n, e := shape.FrontDisc(slices.Concat(times("("), lexed("A"), times(")"), lexed("range 1 .. 2"))); n != 2*depth+5 || e != api.OK {
		t.Error(n, e)
	}
}
