package syntax_test

import (
	"reflect"
	"slices"
	"strings"
	"testing"

	"ceiling/api"
	"ceiling/lex"
	"ceiling/syntax"
)

// misses fails the test unless each text, behind a beginning, ends at an index with ErrSyntax.
func misses(t *testing.T, beginning string, l map[string]int) {
	t.Helper()
	for s, at := range l {
		u, i, e := syntax.Parse(lexed(beginning + s))
		if i != at || e != api.ErrSyntax || !same(u, api.Unit{}) {
			t.Errorf("%s: %d %v", s, i, e)
		}
	}
}

// P5.3: the chapter's examples, and units.
func TestUnitsRead(t *testing.T) {
	u := unit("with A, B; use A; separate (P) task body T is begin null; end T;")
	if !slices.Equal(u.With, []string{"A", "B"}) || len(u.Use) != 1 || !same(u.Use[0], ex("A")) || !same(u.Parent, ex("P")) || u.D.Kind != api.DcTaskBody || !slices.Equal(u.D.Names, []string{"T"}) || len(u.D.Stmts) != 1 || u.D.Stmts[0].Kind != api.StNull {
		t.Error(u)
	}
	u = unit("use A, P.B; with C; use D; with E, F; package P is private end P;")
	if !slices.Equal(u.With, []string{"C", "E", "F"}) || !same(u.Use, []api.Expr{ex("A"), ex("P.B"), ex("D")}) || len(u.D.Private) != 0 {
		t.Error(u)
	}
	misses(t, "", map[string]int{
		"": 0, "with": 1, "with ;": 1, "with A": 2, "with A,": 3, "with A.B;": 2, "with A; ": 3, "use": 1, "use A": 2, "use A.": 3, "use A.all;": 3, "use A,;": 3, "separate": 1, "separate P": 1, "separate (": 2, "separate ()": 2, "separate (P": 3, "separate (P.": 4, "separate (P, Q)": 3, "separate (P)": 4,
		"A : T;": 0, "null;": 0, "function F return T;": 0, "task T;": 0, "task body T is begin null; end T;": 0, "protected P is end P;": 0, "protected body P is end P;": 0, "type T is private;": 0, "subtype T is T;": 0, "entry E;": 0, "begin null; end;": 0, "private": 0, "end": 0, "1": 0,
		"separate (P) generic": 4, "separate (P) function F": 4, "separate (P) use A;": 4, "separate (P) with A;": 4, "separate (P) separate": 4, "separate (P) A": 4, "with A; separate": 4, "generic with": 2, "package P is end P; with": 6, "package P is end P; package": 6,
		"procedure P;": 3, "procedure P (A : T);": 8, "procedure P renames Q;": 5, "package P renames Q.R;": 7, "package body P is separate;": 6, "procedure P is separate;": 5, "separate (P) procedure Q;": 7, "separate (P) procedure Q renames R;": 9, "separate (P) procedure Q is new R;": 10, "separate (P) procedure Q is separate;": 9,
		"separate (P) package Q is end Q;": 10, "separate (P) package Q renames R;": 9, "separate (P) package Q is new R;": 10, "separate (P) package body Q is separate;": 10, "separate (P) task Q;": 7, "separate (P) task Q is entry E; end Q;": 13, "separate (P) task body Q is separate;": 10, "separate (P) protected Q is end Q;": 10, "separate (P) protected body Q is separate;": 10,
		"procedure P; end": 3, "package P is end P; ;": 6,
		"procedure Main is begin null; end Mian;": 7, // the chapter's example
	})
}

// P5.3: statements that are wrong behind a beginning of four tokens.
func TestStatementsMissed(t *testing.T) {
	misses(t, "procedure P is begin ", map[string]int{
		"": 4, "end": 4, "end P;": 4, "exception": 4, "private": 4, "begin": 5, "null": 5, "null; ": 6, "null; private": 6, "null; declare": 7, "null; terminate;": 6, "null; A": 7, "1;": 4, "(A);": 4, "A": 5, "A.": 6, "A.1;": 6, "A.all": 7, "A.all;": 7, "A'B;": 7, "T'(A);": 9, "A (1).all;": 10, "A = 1;": 5, "A :": 6, "A := ": 6, "A := ;": 6, "A := 1": 7, "A := 1,": 7, "A, B := 1;": 5, "A (;": 6, "A (1": 7, "A (1) B": 8, "A (1).B": 10,
		"L :": 6, "L : null;": 6, "L : L : loop": 6, "L : if A then": 6, "L : case": 6, "L : exit;": 6, "L : accept E;": 6, "L : F;": 6, "L : end": 6, "if": 5, "if then": 5, "if A": 6, "if A;": 6, "if A then": 7, "if A then end": 7, "if A then else": 7, "if A then null;": 9, "if A then null; elsif": 10, "if A then null; elsif B": 11, "if A then null; elsif B then": 12, "if A then null; elsif B then else": 12, "if A then null; else": 10, "if A then null; else end": 10, "if A then null; else null; else": 12, "if A then null; else null; elsif": 12, "if A then null; end": 10, "if A then null; end;": 10, "if A then null; end if": 11, "if A then null; end loop;": 10, "if A then null; or": 9,
		"case": 5, "case A": 6, "case A is": 7, "case A is end": 7, "case A is null;": 7, "case A is when": 8, "case A is when 1": 9, "case A is when 1 |": 10, "case A is when 1 ..": 10, "case A is when others,": 9, "case A is when 1 =>": 10, "case A is when 1 => when": 10, "case A is when 1 => end": 10, "case A is when 1 => null;": 12, "case A is when 1 => null; else": 12, "case A is when 1 => null; end": 13, "case A is when 1 => null; end if": 13, "case A is when 1 => null; end case": 14,
		"loop": 5, "loop end": 5, "loop null;": 7, "loop null; end": 8, "loop null; end;": 8, "loop null; end loop": 9, "loop null; end loop L;": 9, "L : loop null; end loop;": 11, "L : loop null; end loop M;": 11, "L : loop null; end loop L": 12, "L : loop loop null; end loop L;": 12, "while": 5, "while A": 6, "while A;": 6, "while A with": 7, "while A with B loop": 8, "while A with B =>": 9, "while A with B => 1": 10, "while A with B => 1 loop": 11, "while A with B => 1 with": 10, "while loop": 5,
		"for": 5, "for 1": 5, "for I": 6, "for I of": 6, "for I, J": 6, "for I in": 7, "for I in loop": 7, "for I in reverse": 8, "for I in reverse reverse": 8, "for I in 1": 8, "for I in 1 loop": 8, "for I in 1 ..": 9, "for I in A (1) loop": 11, "for I in T": 8, "for I in T with": 8, "for I in T loop": 9, "for I in T loop null; end loop": 13, "for I in T loop null; end loop I;": 13,
		"exit": 5, "exit 1;": 5, "exit L": 6, "exit L.M;": 6, "exit L, M;": 6, "exit when": 6, "exit when;": 6, "exit when A": 7, "exit L when A": 8, "exit when A when": 7, "return": 5, "return 1;": 5, "raise": 5, "raise A": 6, "raise A.": 7, "raise A.all;": 7, "raise A (1);": 6, "raise A with": 6, "raise 1;": 5, "delay": 5, "delay ;": 5, "delay 1": 6, "delay until": 6, "delay until;": 6, "delay until until": 6, "delay until 1": 7, "abort": 5, "abort ;": 5, "abort A": 6, "abort A,": 7, "abort A.all": 7, "abort A | B": 6,
		"requeue": 5, "requeue A": 6, "requeue A (1);": 6, "requeue A with": 7, "requeue A with B;": 7, "requeue A with abort": 8, "requeue A with abort abort": 8, "accept": 5, "accept 1": 5, "accept E": 6, "accept E.F;": 6, "accept E (": 7, "accept E ()": 7, "accept E (A : T": 10, "accept E (A : T) (B : T)": 11, "accept E begin": 6, "accept E do": 7, "accept E do end": 7, "accept E do null;": 9, "accept E do null; end": 10, "accept E do null; end;": 10, "accept E do null; end F;": 10, "accept E do null; end E": 11, "accept E do null; exception": 10, "accept E do null; exception end E": 10,
		"declare": 5, "declare null;": 5, "declare X : T;": 9, "declare entry E;": 5, "declare begin": 6, "declare begin end": 6, "declare begin null; end": 9, "declare begin null; end L;": 9, "L : begin null; end;": 10, "L : begin null; end M;": 10, "begin null; end P;": 8, "begin null; exception": 8, "begin null; exception end;": 8, "begin null; exception null;": 8, "begin null; exception when": 9, "begin null; exception when =>": 9, "begin null; exception when 1": 9, "begin null; exception when A": 10, "begin null; exception when A, B =>": 10, "begin null; exception when A |": 11, "begin null; exception when A | others =>": 11, "begin null; exception when others |": 10, "begin null; exception when A.all =>": 11, "begin null; exception when A =>": 11, "begin null; exception when A => end": 11, "begin null; exception when A => when": 11, "begin null; exception when A => null;": 13, "begin null; exception when A => null; exception": 13, "begin null; exception when A => null; null": 14,
	})
}

// P5.3: select statements that are wrong behind a beginning of five tokens.
func TestSelectionsMissed(t *testing.T) {
	misses(t, "procedure P is begin select ", map[string]int{
		"": 5, "null;": 5, "end select;": 5, "else": 5, "or": 5, "begin": 5, "L : F;": 6, "1": 5, "F": 6, "F := 1;": 6, "F.all;": 8, "F.all": 8, "F'A;": 8, "F;": 7, "F; end select;": 7, "F; terminate;": 7, "F; when": 7, "F; null; end": 9, "F; or": 8, "F; or accept E;": 8, "F; or when A => delay": 8, "F; or null;": 8, "F; or terminate": 8, "F; or delay": 9, "F; or delay 1": 10, "F; or delay 1;": 11, "F; or delay 1; or": 11, "F; or delay 1; else": 11, "F; or delay 1; null;": 13, "F; or delay 1; end": 12, "F; or delay 1; end select": 13, "F; else": 8, "F; else end": 8, "F; else null;": 10, "F; else null; or": 10, "F; else null; end": 11, "F; else null; end select": 12,
		"when": 6, "when A": 7, "when A =>": 8, "when A => null;": 8, "when A => F;": 8, "when A => when": 8, "when A | B =>": 7, "terminate": 6, "terminate; null;": 7, "terminate; F;": 7, "terminate;": 7, "terminate; or": 8, "terminate; or null": 8, "terminate; else": 8, "terminate; end": 8, "accept E": 7, "accept E;": 8, "accept E; when": 8, "accept E; terminate": 8, "accept E; null;": 10, "accept E; or": 9, "accept E; or F;": 9, "accept E; or end": 9, "accept E; or or": 9, "accept E; or else": 9, "accept E; or when": 10, "accept E; or delay": 10, "accept E; else": 9, "accept E; else end": 9, "accept E; else null; or": 11, "accept E; else null; else": 11, "accept E; end": 9, "accept E; end;": 9, "accept E; end select": 10, "accept E do null; end F": 11, "delay": 6, "delay 1; delay": 9, "delay 1; else null; end": 12,
	})
}

// P5.3: declarations that are wrong behind a beginning of three tokens.
func TestDeclarationsMissed(t *testing.T) {
	misses(t, "package P is ", map[string]int{
		"": 3, "null;": 3, "begin": 3, "entry E;": 3, "with procedure Q;": 3, "separate;": 3, "private private": 4, "private null;": 4, "end": 4, "end;": 4, "end Q;": 4, "end P": 5, "end P.P": 5, "private end P": 6, "is": 3,
		"A": 4, "A,": 5, "A, :": 5, "A;": 4, "A :": 5, "A : ;": 5, "A : :=": 5, "A := 1;": 4, "A.B : T;": 4, "A : 1": 5, "A : T": 6, "A : T (": 7, "A : T range": 7, "A : T :=": 7, "A : T := ;": 7, "A : T := 1": 8, "A : T := 1, B": 8, "A : T with": 7, "A : T with B": 8, "A : T with B => 1": 10, "A : T with B => 1 := 2;": 10, "A : T with B => 1;": 11, "A : aliased": 6, "A : aliased ;": 6, "A : aliased aliased": 6, "A : aliased := 1": 6, "A : constant": 6, "A : constant constant": 6, "A : constant aliased": 6, "A : constant :=": 7, "A : constant := ;": 7, "A : constant := 1": 8, "A : constant := 1 with": 8, "A : aliased constant :=": 7, "A : aliased constant T": 8,
		"A : exception": 6, "A : exception := 1;": 6, "A : exception with": 6, "A : aliased exception": 6, "A : constant exception": 6, "A : exception renames": 7, "A : exception renames 1": 7, "A : exception renames B": 8, "A : exception renames B.all": 9, "A : exception renames B (1);": 8, "A, B : exception renames": 8, "A : T renames": 7, "A : T renames 1": 7, "A : T renames B": 8, "A : T renames B + 1": 8, "A : T renames B := 1": 8, "A, B : T renames": 8, "A : aliased T renames": 7, "A : constant T renames": 7, "A : T (1) renames": 9, "A : T range 1 .. 2 renames": 10, "A : T := 1 renames": 8,
		"type": 4, "type 1": 4, "type A": 5, "type A;": 5, "type A (": 6, "type A () is": 6, "type A (D : T": 9, "type A (<>) is": 6, "type A (D : T) private": 10, "type A is": 6, "type A is B": 6, "type A is ;": 6, "type A is null": 7, "type A is (A,);": 9, "type A is record": 7, "type A is record end": 8, "type A is private": 7, "type A is private with": 7, "type A, B is": 5, "subtype": 4, "subtype A": 5, "subtype A is": 6, "subtype A is range": 6, "subtype A is T": 7, "subtype A is T range 1": 9, "subtype A is T with": 7, "use": 4, "use ;": 4, "use A": 5, "use A.": 6, "use A.all": 6, "use A,": 6, "use A (1)": 5,
		"procedure": 4, "procedure 1": 4, "procedure A": 5, "procedure A.B": 5, "procedure A (": 6, "procedure A ();": 6, "procedure A (X : T": 9, "procedure A (X : T;": 10, "procedure A (X : T) (": 10, "procedure A return": 5, "procedure A with": 5, "procedure A renames": 6, "procedure A renames B (1)": 7, "procedure A renames B": 7, "procedure A is": 6, "procedure A is ;": 6, "procedure A is private": 6, "procedure A is separate": 7, "procedure A is new": 7, "procedure A is new 1": 7, "procedure A is new G": 8, "procedure A is new G (": 9, "procedure A is new G ()": 9, "procedure A is new G (1": 10, "procedure A is new G (1) (": 11, "procedure A is new G (1)": 11, "procedure A is new G.all": 9, "procedure A (X : T) is new": 11, "procedure A is B : T;": 10, "procedure A is begin": 7, "procedure A is begin end": 7, "procedure A is begin null;": 9, "procedure A is begin null; end": 10, "procedure A is begin null; end;": 10, "procedure A is begin null; end P;": 10, "procedure A is begin null; end A": 11, "procedure A is begin null; exception": 10, "procedure A is separate B": 7,
		"function": 4, "function A": 5, "function A;": 5, "function A is": 5, "function A (X : T)": 10, "function A return": 6, "function A return 1": 6, "function A return T": 7, "function A return T (1)": 7, "function A return T range": 7, "function A return P.all": 8, "function A return T renames": 8, "function A return T renames B": 9, "function A return T is": 8, "function A return T is 1": 8, "function A return T is separate": 8, "function A return T is new": 8, "function A return T is begin": 8, "function A return T is (": 9, "function A return T is ()": 9, "function A return T is (1, 2)": 10, "function A return T is (1": 10, "function A return T is (1)": 11, "function A return T is (1) + 2": 11,
		"package": 4, "package 1": 4, "package A": 5, "package A;": 5, "package A (": 5, "package A renames": 6, "package A renames B": 7, "package A is": 6, "package A is separate": 6, "package A is new": 7, "package A is new G": 8, "package A is begin": 6, "package A is end": 7, "package A is end B": 7, "package A is end A": 8, "package A is private begin": 7, "package A is private end": 8, "package A is private private": 7, "package body": 5, "package body 1": 5, "package body A": 6, "package body A renames": 6, "package body A is": 7, "package body A is new": 7, "package body A is private": 7, "package body A is separate": 8, "package body A is exception": 7, "package body A is begin": 8, "package body A is begin end": 8, "package body A is begin null;": 10, "package body A is begin null; private": 10, "package body A is end": 8, "package body A is end B": 8,
		"generic": 4, "generic is": 4, "generic generic": 4, "generic function": 4, "generic task": 4, "generic use": 4, "generic A": 5, "generic A,": 6, "generic A :": 6, "generic A : aliased": 6, "generic A : constant": 6, "generic A : in": 7, "generic A : out": 6, "generic A : in out": 7, "generic A : T": 7, "generic A : T (1)": 7, "generic A : T range": 7, "generic A : T :=": 8, "generic A : T := 1": 9, "generic A : T with": 7, "generic A : T renames": 7, "generic A : exception": 6, "generic type": 5, "generic type A": 6, "generic type A (": 6, "generic type A is": 7, "generic type A is new": 7, "generic type A is limited": 7, "generic type A is private": 8, "generic type A is (": 8, "generic type A is (A)": 8, "generic type A is (<>": 9, "generic type A is (<>)": 10, "generic type A is range": 8, "generic type A is range 1": 8, "generic type A is range <>": 9, "generic with": 5, "generic with package": 5, "generic with A": 5, "generic with procedure": 6, "generic with procedure A": 7, "generic with procedure A return": 7, "generic with procedure A is": 8, "generic with procedure A is B": 8, "generic with procedure A is <>": 9, "generic with function A": 7, "generic with function A;": 7, "generic with function A return": 8, "generic with function A return T": 9, "generic with function A return T is": 10, "generic package": 5, "generic package body": 5, "generic package A": 6, "generic package A renames": 6, "generic package A is new": 7, "generic package A is begin": 7, "generic package A is end B": 8, "generic procedure": 5, "generic procedure A": 6, "generic procedure A is": 6, "generic procedure A renames": 6, "generic procedure A (": 7, "generic procedure A; end": 8,
	})
}

// P5.3: the same of tasks and protected objects.
func TestTasksMissed(t *testing.T) {
	misses(t, "package P is ", map[string]int{
		"task": 4, "task 1": 4, "task A": 5, "task A (": 5, "task A renames": 5, "task A with": 6, "task A with B => 1": 9, "task A with B => 1 with": 9, "task A is": 6, "task A is separate": 6, "task A is new": 6, "task A is procedure": 6, "task A is function": 6, "task A is B : T": 6, "task A is private": 6, "task A is entry": 7, "task A is entry E": 8, "task A is entry E (": 9, "task A is entry E (X : T)": 13, "task A is entry E when": 8, "task A is entry E is": 8, "task A is entry E;": 9, "task A is end": 7, "task A is end;": 7, "task A is end B": 7, "task A is end A": 8, "task body": 5, "task body A": 6, "task body A;": 6, "task body A with": 6, "task body A is": 7, "task body A is new": 7, "task body A is entry": 7, "task body A is separate": 8, "task body A is begin end": 8, "task body A is begin null; end": 11, "task body A is begin null; end B": 11,
		"protected": 4, "protected 1": 4, "protected A": 5, "protected A;": 5, "protected A (": 5, "protected A with": 6, "protected A with B => 1;": 9, "protected A is": 6, "protected A is separate": 6, "protected A is B : T": 6, "protected A is type": 6, "protected A is use": 6, "protected A is procedure": 7, "protected A is procedure B": 8, "protected A is procedure B is": 8, "protected A is procedure B renames": 8, "protected A is function B": 8, "protected A is function B return T": 10, "protected A is function B return T is": 10, "protected A is function B return T renames": 10, "protected A is entry B": 8, "protected A is entry B when": 8, "protected A is private": 7, "protected A is private end": 7, "protected A is private procedure": 7, "protected A is private null": 8, "protected A is private null; null": 9, "protected A is private B : T": 10, "protected A is private B : T; procedure": 11, "protected A is private B : T; private": 11, "protected A is end": 7, "protected A is end B": 7, "protected A is end A": 8,
		"protected body": 5, "protected body A": 6, "protected body A with": 6, "protected body A is": 7, "protected body A is private": 7, "protected body A is separate": 8, "protected body A is B : T": 7, "protected body A is procedure": 8, "protected body A is procedure B": 9, "protected body A is procedure B;": 9, "protected body A is procedure B renames": 9, "protected body A is procedure B is": 10, "protected body A is procedure B is separate": 10, "protected body A is procedure B is new": 10, "protected body A is procedure B is begin null; end A": 14, "protected body A is function B": 9, "protected body A is function B return T": 11, "protected body A is function B return T;": 11, "protected body A is function B return T renames": 11, "protected body A is function B return T is": 12, "protected body A is function B return T is begin": 12, "protected body A is entry": 8, "protected body A is entry B": 9, "protected body A is entry B;": 9, "protected body A is entry B is": 9, "protected body A is entry B (X : T) is": 14, "protected body A is entry B when": 10, "protected body A is entry B when A": 11, "protected body A is entry B when A;": 11, "protected body A is entry B when A is": 12, "protected body A is entry B when A is separate": 12, "protected body A is entry B when A is begin null; end A": 16, "protected body A is end": 8, "protected body A is end B": 8,
	})
}

// P5.3: what is read but is not valid, and where the end of reading comes first.
func TestInvalidRead(t *testing.T) {
	times := strings.Repeat
	marks := func(n int) string { return times("A, ", n-1) + "A" }
	long := times("A + ", 32) + "A" // nested too deep
	body := func(s string) string { return "package body P is begin " + s + " end P;" }
	spec := func(s string) string { return "package P is " + s + " end P;" }
	handlers := func(n int) string { return body("begin null; exception " + times("when E => null; ", n) + "end;") }
	for s, ok := range map[string]bool{
		"with " + marks(16) + "; package P is end P;": true, "with " + marks(17) + "; package P is end P;": false, times("with A; ", 17) + "package P is end P;": false, "use " + marks(16) + "; package P is end P;": true, times("use A; ", 17) + "package P is end P;": false,
		"separate (A" + times(".A", 31) + ") package body P is end P;": true, "separate (A" + times(".A", 32) + ") package body P is end P;": false,
		spec(marks(8) + " : T;"): true, spec(marks(9) + " : T;"): false, spec(marks(9) + " : constant := 1;"): false, spec(marks(9) + " : exception;"): false, spec("use " + marks(8) + ";"): true, spec("use " + marks(9) + ";"): false,
		spec("type A (D : T) is private;"): true, spec("type A (D : T) is (B);"): false, spec("type A (D : T) is range 1 .. 2;"): false, spec("type A (D : T) is array (T) of T;"): false, spec("type A (D : T) is access T;"): false, spec("type A (D : T) is new T;"): true, spec("type A (D : T) is null record;"): true, spec("type A (D, E : T) is private;"): false, spec("type A (D : T; E : T) is private;"): false, spec("type A (D : out T) is private;"): false, spec("type A (D : in out T) is private;"): false, spec("type A (D : in T := 1) is private;"): true,
		spec("procedure A (X : out T := 1);"): false, spec("procedure A (" + marks(9) + " : T);"): false, spec("A : T := " + long + ";"): false, spec("A : T := " + long[4:] + ";"): true, spec("function A return A" + times(".A", 32) + ";"): false, spec("A : exception renames A" + times(".A", 32) + ";"): false,
		spec("task T is " + times("entry E; ", 8) + "end T;"): true, spec("task T is " + times("entry E; ", 9) + "end T;"): false, spec("protected T is " + times("entry E; ", 9) + "end T;"): true, spec("generic " + times("type A is private; ", 8) + "procedure A;"): true, spec("generic " + times("type A is private; ", 9) + "procedure A;"): false, spec("generic " + marks(9) + " : T; procedure A;"): false, spec("generic " + marks(8) + " : T; procedure A;"): true,
		spec("package A is new G (" + times("1, ", 7) + "1);"): true, spec("package A is new G (" + times("1, ", 8) + "1);"): false, spec("A : T with B => 1" + times(", B => 1", 7) + ";"): true, spec("A : T with B => 1" + times(", B => 1", 8) + ";"): false,
		body("abort " + marks(8) + ";"): true, body("abort " + marks(9) + ";"): false, body("if A then null; " + times("elsif A then null; ", 15) + "else null; end if;"): true, body("if A then null; " + times("elsif A then null; ", 16) + "end if;"): false, body("case A is " + times("when 1 => null; ", 16) + "end case;"): true, body("case A is " + times("when 1 => null; ", 17) + "end case;"): false, body("case A is when others => null; when 1 => null; end case;"): true, body("case A is when 1 | others => null; end case;"): false,
		handlers(16): true, handlers(17): false, body("begin null; exception when others => null; when E => null; end;"): false, body("begin null; exception when E" + times(" | E", 15) + " => null; end;"): true, body("begin null; exception when E" + times(" | E", 16) + " => null; end;"): false,
		body("select accept E; " + times("or accept E; ", 15) + "end select;"): true, body("select accept E; " + times("or accept E; ", 16) + "end select;"): false, body("select delay 1; end select;"): false, body("select terminate; end select;"): false, body("select delay 1; or delay 1; else null; end select;"): false, body("select accept E; or terminate; or terminate; end select;"): false, body("select accept E; or terminate; else null; end select;"): false, body("select accept E; or terminate; or delay 1; end select;"): false, body("select accept E; or delay 1; else null; end select;"): false, body("select accept E; or delay 1; or delay 2; end select;"): true,
		body(times("null; ", 2047)): true, body(times("null; ", 2048)): false, spec(times("use A; ", 2047)): true, spec(times("use A; ", 2048)): false, body(times("begin ", 30) + "null; " + times("end; ", 30)): true, body(times("begin ", 31) + "null; " + times("end; ", 31)): false,
		spec(times("package A is ", 31) + times("end A; ", 31)): true, spec(times("package A is ", 32) + times("end A; ", 32)): false, body("X (A" + times(".A", 30) + ");"): true, body("X (A" + times(".A", 31) + ");"): false,
	} {
		l := lexed(s)
		u, at, e := syntax.Parse(l)
		if ok && (e != api.OK || !mayUnit(u)) || !ok && (e != api.ErrLong || !same(u, api.Unit{})) || at != 0 {
			t.Errorf("%.100s: %d %v", s, at, e)
		}
		if _, line, f := syntax.Read("\n\n" + s); f != e || line != 0 {
			t.Errorf("%.100s: line %d %v", s, line, f)
		}
	}
	// What lower layers find ends reading; the rest is found only when all is read.
	for s, want := range map[string]api.Errno{
		"package P is A : T := " + long + "; ;": api.ErrLong, "package P is procedure A (" + marks(9) + " : T); ;": api.ErrLong, "package P is type A is record A : T := " + long + "; ;": api.ErrLong, "package P is A : T with B => 1" + times(", B => 1", 8) + " ;;": api.ErrLong, "package P is A : T range 1 .. " + long + " ;;": api.ErrLong, "package P is package A is new G (" + times("1, ", 8) + "1) )": api.ErrLong, body("case A is when 1 | others => ;"): api.ErrLong, body("for I in " + long + " .. 2 loop ;"): api.ErrLong,
		body(long[:len(long)-1] + ";"): api.ErrSyntax, "package P is " + marks(9) + " : T; ;": api.ErrSyntax, "package P is type A (D, E : T) is private; ;": api.ErrSyntax, body(times("null; ", 2048) + " ;"): api.ErrSyntax, "package P is use A" + times(".A", 32) + "; ;": api.ErrSyntax, body("select terminate; end;"): api.ErrSyntax, "procedure P (" + marks(9) + " : T);": api.ErrLong, "with " + marks(17) + "; procedure P;": api.ErrSyntax, "with " + marks(17) + "; package P is end P; ;": api.ErrSyntax,
	} {
		u, at, e := syntax.Parse(lexed(s))
		if e != want || (at == 0) != (e == api.ErrLong) || !same(u, api.Unit{}) {
			t.Errorf("%.100s: %d %v", s, at, e)
		}
	}
}

// P5.3: Line of statements, declarations and handlers.
func TestLinesRead(t *testing.T) {
	u := unit("with A;\nseparate\n(P)\nprocedure\nQ is\nX,\nY : T;\ntype\nR is private;\nbegin\nL\n:\nloop\nF\n;\nend loop L;\nexception\nwhen\nothers\n=>\nnull; end Q;")
	d := u.D
	if u.Parent.Line != 3 || d.Line != 4 || d.Decls[0].Line != 6 || d.Decls[1].Line != 8 || d.Stmts[0].Line != 11 || d.Stmts[0].Stmts[0].Line != 14 || d.Handlers[0].Line != 18 || d.Handlers[0].Stmts[0].Line != 21 {
		t.Errorf("%+v", u)
	}
	s := stmt("\nselect\nwhen A =>\naccept\nE; null;\nor\nterminate;\nend select;\n")
	if s.Line != 2 || s.Arms[0].First[0].Line != 4 || s.Arms[0].Stmts[0].Line != 5 || s.Arms[0].Cond.Line != 3 {
		t.Errorf("%+v", s)
	}
	s = stmt("select\nF;\nor\ndelay\n1;\nend select;\n")
	if s.Line != 1 || s.Arms[0].First[0].Line != 2 || s.Arms[1].First[0].Line != 4 || s.Arms[1].First[0].E.Line != 5 {
		t.Errorf("%+v", s)
	}
	d = decl("\ngeneric\ntype\nA is private;\nX : T;\nwith\nprocedure B;\npackage\nG is\nY : T;\nend G;")
	if d.Line != 2 || d.Formals[0].Line != 3 || d.Formals[1].Line != 5 || d.Formals[2].Line != 6 || d.Decls[0].Line != 8 || d.Decls[0].Decls[0].Line != 10 {
		t.Errorf("%+v", d)
	}
	d = decl("protected body\nO is\nentry\nE when A is begin null; end E;\nfunction F return T is (1); end O;")
	if d.Decls[0].Line != 3 || d.Decls[0].Cond.Line != 4 || d.Decls[1].Line != 5 || d.Ent != 0 {
		t.Errorf("%+v", d)
	}
	u, _, _ = syntax.Parse([]api.Token{{Kind: api.TokKey, Text: "package", Line: -3}, {Kind: api.TokName, Text: "P"}, {Kind: api.TokKey, Text: "is"}, {Kind: api.TokKey, Text: "end"}, {Kind: api.TokName, Text: "P", Line: 9}, {Kind: api.TokSym, Text: ";"}})
	if u.D.Line != -3 || u.D.Kind != api.DcPackage {
		t.Errorf("%+v", u)
	}
}

// P5.3: Read: the errors of tokens, and the lines of errors.
func TestRead(t *testing.T) {
	for s, want := range map[string]struct {
		line int
		e    api.Errno
	}{
		"": {1, api.ErrSyntax}, "\n\n": {1, api.ErrSyntax}, "-- a\n": {1, api.ErrSyntax}, "package P is\nend P;": {0, api.OK}, "\npackage": {2, api.ErrSyntax}, "package P is\n\nend": {3, api.ErrSyntax}, "package P is\n\nend\n-- a\n": {3, api.ErrSyntax}, "package P is\nend P;\nnull;": {3, api.ErrSyntax},
		"package P\n is #": {2, api.ErrToken}, "; \n #": {2, api.ErrToken}, "package P is X : T := " + strings.Repeat("A + ", 32) + "A;\nend P;": {0, api.ErrLong}, strings.Repeat("a ", 8192) + "\na": {2, api.ErrLong}, strings.Repeat(" ", 65537): {0, api.ErrLong}, strings.Repeat("-", 65537): {0, api.ErrLong}, strings.Repeat(" ", 65516) + "package P is\nend P;": {0, api.OK},
	} {
		u, line, e := syntax.Read(s)
		if line != want.line || e != want.e || (e == api.OK) != syntax.May(u) || e != api.OK && !same(u, api.Unit{}) {
			t.Errorf("%.60q: %d %v", s, line, e)
		}
	}
}

// P5.3: tokens that do not exist are looked at by their kind and their text alone.
func TestOddTokens(t *testing.T) {
	l := unlined(lexed("procedure P is begin L : loop F (1); exit L; end loop L; end P;"))
	if _, at, e := syntax.Parse(l); at != 0 || e != api.OK {
		t.Fatal(at, e)
	}
	odd := func(i int, x api.Token) (int, api.Errno) {
		m := slices.Clone(l)
		m[i] = x
		compare(t, m)
		_, at, e := syntax.Parse(m)
		return at, e
	}
	for i, x := range l {
		x.Line = -7
		if x.N = 5; x.Kind == api.TokInt {
			x.N, x.Text = 1, ")"
		}
		if at, e := odd(i, x); at != 0 || e != api.OK {
			t.Error("more fields", i, at, e)
		}
		for _, k := range []api.TokenKind{api.NoToken, api.TokSym, api.TokKey, 9} {
			if y := x; k != x.Kind {
				y.Kind = k
				if at, e := odd(i, y); at != i || e != api.ErrSyntax {
					t.Error("other kinds", i, k, at, e)
				}
			}
		}
		x.Kind = api.TokName
		odd(i, x)
	}
	name := func(s string) api.Token { return api.Token{Kind: api.TokName, Text: s} }
	for i, want := range map[int]int{1: 19, 4: 17, 7: -1, 12: -1, 17: 17, 20: 20} {
		at, e := odd(i, name("if"))
		if want < 0 && (at != 0 || e != api.ErrLong) || want >= 0 && e != api.ErrSyntax {
			t.Error("a name that is none", i, at, e)
		}
	}
	if at, e := odd(9, api.Token{Kind: api.TokInt, N: -1}); at != 0 || e != api.ErrLong {
		t.Error("an integer that is none", at, e)
	}
}

// compare fails the test unless tokens are read as by the grammar; what is read is written, and read again as the same.
func compare(t *testing.T, l []api.Token) {
	t.Helper()
	u, at, e := syntax.Parse(l)
	n, f := parsed(l)
	switch {
	case f == api.OK && e == api.ErrLong: // what was read is not valid
	case at != n || e != f:
		t.Fatalf("%s: %d %v, not %d %v", text(l), at, e, n, f)
	}
	if e != api.OK {
		if !reflect.ValueOf(u).IsZero() {
			t.Fatal(text(l))
		}
		return
	}
	lines, e := syntax.Lines(u)
	again, at, f := syntax.Parse(flat(lines))
	if e != api.OK || f != api.OK || at != 0 || !mayUnit(u) || !same(u, again) || len(flat(lines)) > len(l)+2*len(u.With)+2*len(u.Use) {
		t.Fatalf("%s: %v %v", text(l), e, f)
	}
}

// P5.3: all beginnings of units, and units with each token of the alphabet at each place, in front of the next one and instead of it.
func TestBeginnings(t *testing.T) {
	var texts []string
	for _, s := range stmtTexts {
		texts = append(texts, "procedure P is begin "+s+" end P;")
	}
	for _, s := range declTexts {
		texts = append(texts, "package P is "+s+" end P;")
	}
	texts = append(texts, "with A, B; use A, P.B; separate (P.Q) protected body O is entry E (X : T) when A is begin null; end E; end O;", "package P is generic type A is private; type B is (<>); type C is range <>; X, Y : in T := 1; with procedure P (X : T) is <>; with function F return T is <>; procedure G (X : T); end P;")
	for _, s := range texts {
		l := lexed(s)
		for n := range len(l) + 1 {
			compare(t, l[:n])
			for _, x := range alphabet {
				compare(t, slices.Concat(l[:n], []api.Token{x}, l[n:]))
				if n < len(l) {
					compare(t, slices.Concat(l[:n], []api.Token{x}, l[n+1:]))
				}
			}
		}
	}
}

// P5.3: all lists of up to two tokens, alone and behind beginnings.
func TestShortLists(t *testing.T) {
	for _, s := range []string{"", "separate (P)", "package P is", "package body P is begin", "procedure P is begin select", "package P is protected O is", "package P is protected body O is", "package P is A :", "package P is generic", "procedure P is begin select accept E;"} {
		l := lexed(s)
		for _, x := range alphabet {
			for _, y := range alphabet {
				compare(t, append(slices.Clone(l), x, y))
			}
		}
	}
}

// P5.3: random units with a few tokens changed.
func TestDisturbed(t *testing.T) {
	m := newMaker(6)
	w := noisy(m)
	for range 2500 {
		l := lexed(joined(w.unit(m.unit(m.Intn(25)))))
		compare(t, m.lines(l))
		compare(t, m.lines(m.disturbed(l)))
	}
}

// P5.3: tokens are neither changed nor looked at behind their end, and lists in a result share no memory.
func TestMemory(t *testing.T) {
	m := newMaker(7)
	for range 100 {
		all := lexed(joined(plain.unit(m.unit(20))))
		l := slices.Concat(all, lexed(", A ; with A ; null ;"))
		before := slices.Clone(l)
		u, at, e := syntax.Parse(l[:len(all)])
		v, _, _ := syntax.Parse(l[:len(all)])
		if e != api.OK || at != 0 || !slices.Equal(l, before) {
			t.Fatal(at, e)
		}
		apart(t, []api.Unit{u, v})
		n := m.Intn(len(all))
		compare(t, l[:n])
	}
}

// P5.3: forms that are nested deeper than calls can be, and long ones.
func TestDeepLists(t *testing.T) {
	small(t)
	const many = 20000
	times := func(s string) []api.Token { return slices.Repeat(lexed(s), many) }
	reading := func(at int, e api.Errno, pieces ...[]api.Token) {
		t.Helper()
		if u, i, f := syntax.Parse(slices.Concat(pieces...)); i != at || f != e || u.D.Kind != api.NoDecl {
			t.Error(i, f)
		}
	}
	begin, end := lexed("procedure P is begin"), lexed("end P;")
	for _, s := range [][2]string{
		{"begin", "end;"}, {"loop", "end loop;"}, {"L : loop", "end loop L;"}, {"if A then null; else", "end if;"}, {"if A then", "end if;"}, {"case A is when 1 =>", "end case;"}, {"accept E do", "end E;"}, {"begin null; exception when others =>", "end;"}, {"declare procedure Q is begin", "end Q; begin null; end;"},
		{"select accept E; else", "end select;"}, {"select accept E;", "end select;"}, {"select F; or delay 1;", "end select;"}, {"select F;", "else null; end select;"}, {"select accept E do", "end E; end select;"},
	} {
		open, shut := times(s[0]), times(s[1])
		reading(0, api.ErrLong, begin, open, lexed("null;"), shut, end)
		reading(4+len(open), api.ErrSyntax, begin, open)
		reading(4+len(open)+2+len(shut)-1, api.ErrSyntax, begin, open, lexed("null;"), shut[:len(shut)-1], end)
	}
	spec := lexed("package P is")
	for _, s := range [][2]string{{"package A is", "end A;"}, {"package A is private", "end A;"}, {"package body A is", "end A;"}, {"generic package A is", "end A;"}, {"procedure A is", "begin null; end A;"}, {"task body A is", "begin null; exception when others => null; end A;"}} {
		open, shut := times(s[0]), times(s[1])
		reading(0, api.ErrLong, spec, open, shut, end)
		reading(3+len(open), api.ErrSyntax, spec, open)
		reading(3+len(open)+len(shut)-1, api.ErrSyntax, spec, open, shut[:len(shut)-1], end)
	}
	reading(0, api.ErrLong, begin, times("null;"), end)
	reading(4+2*many, api.ErrSyntax, begin, times("null;"))
	reading(0, api.ErrLong, spec, times("A : T;"), end)
	reading(0, api.ErrLong, lexed("with A"), times(", A"), lexed("; package P is end P;"))
	reading(0, api.ErrLong, lexed("use A"), times(".A"), lexed("; package P is end P;"))
	reading(0, api.ErrLong, begin, lexed("if A then null;"), times("elsif A then null;"), lexed("end if;"), end)
	reading(0, api.ErrLong, begin, lexed("select accept E;"), times("or accept E;"), lexed("end select;"), end)
	reading(0, api.ErrLong, begin, lexed("null; exception"), times("when E => null;"), end)
	reading(0, api.ErrLong, lexed("generic"), times("type A is private;"), lexed("procedure P;"))
	reading(0, api.ErrLong, begin, lexed("F (A"), times("+ (A)"), lexed(");"), end)
}

// P5.3: all that can be put into a text.
func TestLargest(t *testing.T) {
	src := "procedure P is begin " + strings.Repeat("A := 1; ", 2045) + "end P;"
	if l, _, e := lex.Tokens(src); e != api.OK || len(l) != 8187 {
		t.Fatal(len(l), e)
	}
	u, line, e := syntax.Read(src)
	if e != api.OK || line != 0 || syntax.Size(u) != 2046 {
		t.Error(line, e)
	}
	s, e := syntax.Print(u)
	again, _, f := syntax.Read(s)
	if e != api.OK || f != api.OK || !syntax.Same(u, again) {
		t.Error(e, f)
	}
}
