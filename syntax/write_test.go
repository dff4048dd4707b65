package syntax_test

import (
	"slices"
	"strings"
	"testing"

	"ceiling/api"
	"ceiling/syntax"
)

// prints fails the test unless a text is read and printed as another one.
func prints(t *testing.T, s, want string) {
	t.Helper()
	got, e := syntax.Print(unit(s))
	if e != api.OK || got != want {
		t.Errorf("%s: %v\n%s", s, e, got)
	}
}

// P5.2: the chapter's examples, and units.
func TestUnitsWritten(t *testing.T) {
	prints(t, "package P is X : Integer := 1; end P;", "package P is\n  X : Integer := 1;\nend P;\n")
	prints(t, "package P is private end P;", "package P is\nend P;\n")
	prints(t, "with A, B; use A, P.C; with C; procedure P is begin null; end P;", "with A;\nwith B;\nwith C;\nuse A;\nuse P.C;\nprocedure P is\nbegin\n  null;\nend P;\n")
	prints(t, "with A; separate (P.Q) task body T is X : T; begin null; end T;", "with A;\nseparate (P.Q)\ntask body T is\n  X : T;\nbegin\n  null;\nend T;\n")
	prints(t, "package P is new P.G (1, X => 2);", "package P is new P.G (1, X => 2);\n")
	prints(t, "procedure P is new G;", "procedure P is new G;\n")
	prints(t, "generic procedure P;", "generic\nprocedure P;\n")
}

// P5.2: statements, in their lines and at their depths.
func TestStatementsWritten(t *testing.T) {
	for s, want := range map[string]string{
		"null;": "null;", "P.all := (1, 2);": "P.all := (1, 2);", "F (1);": "F (1);", "exit;": "exit;", "exit L;": "exit L;", "exit when (A);": "exit when A;", "exit L when A = B;": "exit L when A = B;", "return;": "return;", "raise;": "raise;", "raise P.E;": "raise P.E;",
		"delay 1;": "delay 1;", "delay until A + 1;": "delay until A + 1;", "abort A, P.B;": "abort A, P.B;", "requeue P.E;": "requeue P.E;", "requeue E with abort;": "requeue E with abort;", "accept E;": "accept E;", "accept E (A : in T; B : out T);": "accept E (A : T; B : out T);",
		"if A then null; end if;": "if A then~  null;~end if;", "if A then null; elsif (B) then null; null; else null; end if;": "if A then~  null;~elsif B then~  null;~  null;~else~  null;~end if;",
		"case A is when 1 | 2 .. 3 => null; when others => null; null; end case;": "case A is~  when 1 | 2 .. 3 =>~    null;~  when others =>~    null;~    null;~end case;",
		"loop null; end loop;": "loop~  null;~end loop;", "L : loop null; end loop L;": "L : loop~  null;~end loop L;", "while A loop null; end loop;": "while A loop~  null;~end loop;", "L : while A with B => 1, C => 2 loop null; end loop L;": "L : while A with B => 1, C => 2 loop~  null;~end loop L;",
		"for I in T loop null; end loop;": "for I in T loop~  null;~end loop;", "L : for I in reverse T range 1 .. 2 loop null; end loop L;": "L : for I in reverse T range 1 .. 2 loop~  null;~end loop L;",
		"begin null; end;": "begin~  null;~end;", "declare begin null; end;": "begin~  null;~end;", "declare X : T; begin null; end;": "declare~  X : T;~begin~  null;~end;", "L : begin null; end L;": "L : begin~  null;~end L;",
		"L : declare X : T; begin null; exception when A | P.B => null; when others => null; end L;": "L : declare~  X : T;~begin~  null;~exception~  when A | P.B =>~    null;~  when others =>~    null;~end L;",
		"accept E do null; end E;": "accept E do~  null;~end E;", "accept E (A : T) do null; exception when E => raise; end E;": "accept E (A : T) do~  null;~exception~  when E =>~    raise;~end E;",
		"select accept E; end select;": "select~  accept E;~end select;", "select accept E do null; end E; null; or when A => accept F do null; end F; null; or when B => terminate; end select;": "select~  accept E do~    null;~  end E;~  null;~or~  when A =>~    accept F do~      null;~    end F;~    null;~or~  when B =>~    terminate;~end select;",
		"select terminate; or accept E; end select;": "select~  terminate;~or~  accept E;~end select;", "select accept E; or delay 1; null; or when A => delay until 2; null; end select;": "select~  accept E;~or~  delay 1;~  null;~or~  when A =>~    delay until 2;~    null;~end select;",
		"select when A => accept E; else null; null; end select;": "select~  when A =>~    accept E;~else~  null;~  null;~end select;", "select F (1); null; or delay 1; null; end select;": "select~  F (1);~  null;~or~  delay 1;~  null;~end select;", "select F; or delay until 1; end select;": "select~  F;~or~  delay until 1;~end select;",
		"select F; null; else null; end select;": "select~  F;~  null;~else~  null;~end select;",
	} {
		prints(t, "procedure P is begin "+s+" end P;", "procedure P is\nbegin\n  "+strings.ReplaceAll(want, "~", "\n  ")+"\nend P;\n")
	}
}

// P5.2: declarations.
func TestDeclarationsWritten(t *testing.T) {
	for s, want := range map[string]string{
		"A, B : T;": "A, B : T;", "A : aliased T := 1;": "A : aliased T := 1;", "A : constant P.T (1);": "A : constant P.T (1);", "A, B : aliased constant T range (1) .. 2 := (A and B) with C => 1, D => (2);": "A, B : aliased constant T range 1 .. 2 := A and B with C => 1, D => 2;", "A : T with B => 1;": "A : T with B => 1;",
		"A, B : constant := 1;": "A, B : constant := 1;", "A, B : exception;": "A, B : exception;", "A : P.T renames B.all (1);": "A : P.T renames B.all (1);", "A : exception renames P.E;": "A : exception renames P.E;", "package A renames P.Q;": "package A renames P.Q;",
		"procedure A renames P.Q;": "procedure A renames P.Q;", "procedure A (X : in T) renames Q;": "procedure A (X : T) renames Q;", "function A return P.T renames Q;": "function A return P.T renames Q;", "function A (X : T) return T renames P.Q;": "function A (X : T) return T renames P.Q;",
		"type A is (B, C);": "type A is (B, C);", "type A (D : T := 1) is limited private;": "type A (D : T := 1) is limited private;", "type A is record null; end record;": "type A is null record;",
		"type A (D : T) is record B : T; case D is when 1 => null; when others => C : T; end case; end record;": "type A (D : T) is record~  B : T;~  case D is~    when 1 =>~      null;~    when others =>~      C : T;~  end case;~end record;",
		"subtype A is T range 1 .. 2;": "subtype A is T range 1 .. 2;", "use A;": "use A;", "use A, P.B;": "use A, P.B;", "procedure A;": "procedure A;", "procedure A (X, Y : in out T; Z : out T);": "procedure A (X, Y : in out T; Z : out T);",
		"procedure A is begin null; end A;": "procedure A is~begin~  null;~end A;", "procedure A (X : T) is B : T; begin null; exception when others => null; end A;": "procedure A (X : T) is~  B : T;~begin~  null;~exception~  when others =>~    null;~end A;",
		"function A return T;": "function A return T;", "function A (X : T) return P.T;": "function A (X : T) return P.T;", "function A return T is (1);": "function A return T is (1);", "function A (X : T) return T is ((1, 2));": "function A (X : T) return T is ((1, 2));", "function A return T is ((A));": "function A return T is (A);",
		"package A is end A;": "package A is~end A;", "package A is B : T; private C : T; end A;": "package A is~  B : T;~private~  C : T;~end A;", "package A is private C : T; end A;": "package A is~private~  C : T;~end A;", "package body A is end A;": "package body A is~end A;",
		"package body A is B : T; begin null; exception when E => null; end A;": "package body A is~  B : T;~begin~  null;~exception~  when E =>~    null;~end A;", "task A;": "task A;", "task A is end A;": "task A;", "task A with B => 1 is end A;": "task A with B => 1;",
		"task A is entry E; entry F (X : T); end A;": "task A is~  entry E;~  entry F (X : T);~end A;", "task A with B => 1, C => 2 is entry E; end A;": "task A with B => 1, C => 2 is~  entry E;~end A;", "task body A is B : T; begin null; end A;": "task body A is~  B : T;~begin~  null;~end A;",
		"protected A is end A;": "protected A is~end A;", "protected A is private null; end A;": "protected A is~end A;", "protected A with B => 1 is procedure P; function F (X : T) return T; entry E; private C, D : T := 1; E : T; end A;": "protected A with B => 1 is~  procedure P;~  function F (X : T) return T;~  entry E;~private~  C, D : T := 1;~  E : T;~end A;",
		"protected body A is end A;": "protected body A is~end A;", "protected body A is entry E (X : T) when A = B is C : T; begin null; end E; procedure P is begin null; end P; function F return T is (1); end A;": "protected body A is~  entry E (X : T) when A = B is~    C : T;~  begin~    null;~  end E;~  procedure P is~  begin~    null;~  end P;~  function F return T is (1);~end A;",
		"generic package A is B : T; end A;": "generic~package A is~  B : T;~end A;", "generic type B is private; type C is (<>); type D is range <>; X, Y : in T := 1; Z : P.T; procedure A (X : T);": "generic~  type B is private;~  type C is (<>);~  type D is range <>;~  X, Y : T := 1;~  Z : P.T;~procedure A (X : T);",
		"generic with procedure P; with procedure P (X : T) is <>; with function F return T; with function F (X : T) return P.T is <>; procedure A;": "generic~  with procedure P;~  with procedure P (X : T) is <>;~  with function F return T;~  with function F (X : T) return P.T is <>;~procedure A;",
		"package A is new G;": "package A is new G;", "procedure A is new P.G (1, X => (2));": "procedure A is new P.G (1, X => 2);", "procedure A is separate;": "procedure A is separate;", "procedure A (X : T) is separate;": "procedure A (X : T) is separate;",
		"package body A is separate;": "package body A is separate;", "task body A is separate;": "task body A is separate;", "protected body A is separate;": "protected body A is separate;",
	} {
		prints(t, "package P is "+s+" end P;", "package P is\n  "+strings.ReplaceAll(want, "~", "\n  ")+"\nend P;\n")
	}
}

// P5.2: tokens have no lines, depths are those of the lines, and a result shares no memory.
func TestLines(t *testing.T) {
	u := unit("\n\nprocedure P\nis X : T;\nbegin\nloop F (1); exit; end loop; exception when A => null; end P;")
	l, e := syntax.Lines(u)
	depths := []int{0, 1, 0, 1, 2, 2, 1, 0, 1, 2, 0}
	if e != api.OK || len(l) != len(depths) {
		t.Fatal(l, e)
	}
	for i, x := range l {
		if x.Depth != depths[i] {
			t.Error(i, x.Depth)
		}
		for _, y := range x.L {
			if y.Line != 0 {
				t.Error(y)
			}
		}
	}
	m := newMaker(5)
	for range 50 {
		u := m.unit(20)
		l, _ := syntax.Lines(u)
		again, _ := syntax.Lines(u)
		apart(t, [][]api.Line{l, again})
	}
}

// P5.2: units that are not valid, and those whose text is too long.
func TestNotPrinted(t *testing.T) {
	for i, u := range []api.Unit{{}, {D: decl("procedure A;")}, {Parent: ex("P"), D: decl("package A is end A;")}, {D: api.Decl{Kind: api.DcPackage}}, {With: []string{"if"}, D: decl("package A is end A;")}, {D: api.Decl{Kind: api.DcPackageBody, Names: []string{"A"}, Stmts: []api.Stmt{{}}}}} {
		l, e := syntax.Lines(u)
		s, f := syntax.Print(u)
		if len(l) != 0 || e != api.ErrArg || s != "" || f != api.ErrArg {
			t.Error(i, e, f)
		}
	}
	// Lines of up to 256 bytes, of which two are their depth, and 65,536 bytes in all.
	object := func(bytes int) api.Decl {
		value := bytes - len("  A : T := ;")
		return decl("A : T := " + strings.Repeat(strings.Repeat("n", 32)+".", value/33) + strings.Repeat("n", value%33) + ";")
	}
	longest := slices.Repeat([]api.Decl{object(256)}, 254)
	for _, x := range []struct {
		l []api.Decl
		e api.Errno
	}{{longest[:1], api.OK}, {[]api.Decl{object(257)}, api.ErrLong}, {slices.Concat(longest, []api.Decl{object(237)}), api.OK}, {slices.Concat(longest, []api.Decl{object(238)}), api.ErrLong}} {
		u := api.Unit{D: api.Decl{Kind: api.DcPackage, Names: []string{"P"}, Decls: x.l}}
		l, e := syntax.Lines(u)
		s, f := syntax.Print(u)
		if e != api.OK || len(l) != len(x.l)+2 || f != x.e || (f == api.OK) != (s != "") || len(s) > 65536 || len(x.l) == 255 && f == api.OK && len(s) != 65536 {
			t.Error(len(l), e, f, len(s))
		}
	}
	// The deepest lines that there are.
	inside := "if A then null; end if;"
	for range 30 {
		inside = "case A is when 1 => " + inside + " end case;"
	}
	u, at, e := syntax.Parse(lexed("procedure P is begin " + inside + " end P;"))
	if e != api.ErrLong || at != 0 {
		t.Error(at, e)
	}
	inside = "null;"
	for range 30 {
		inside = "case A is when 1 => " + inside + " end case;"
	}
	u = unit("procedure P is begin " + inside + " end P;")
	l, _ := syntax.Lines(u)
	deepest := 0
	for _, x := range l {
		deepest = max(deepest, x.Depth)
	}
	if s, e := syntax.Print(u); e != api.OK || deepest != 61 || !strings.Contains(s, "\n"+strings.Repeat(" ", 122)+"null;\n") {
		t.Error(deepest, e)
	}
}
