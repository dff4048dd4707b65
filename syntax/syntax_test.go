package syntax_test

import (
	"reflect"
	"slices"
	"strings"
	"testing"

	"ceiling/api"
	"ceiling/syntax"
)

// stmtTexts has a statement of each kind, and of each form of it.
var stmtTexts = []string{
	"null;", "A := 1;", "P.all := (1, 2);", "F;", "P.F (1);", "if A then null; end if;", "if A then null; elsif B then null; else null; null; end if;", "case A is when 1 => null; when others => null; end case;",
	"loop null; end loop;", "L : loop null; end loop L;", "while A loop null; end loop;", "L : while A with B => 1 loop null; end loop L;", "for I in 1 .. 2 loop null; end loop;", "L : for I in reverse T loop null; end loop L;",
	"exit;", "exit L;", "exit when A;", "exit L when A;", "return;", "begin null; end;", "L : declare X : T; begin null; exception when A | B => null; when others => null; end L;", "raise;", "raise P.E;",
	"delay 1;", "delay until A;", "abort A, P.B;", "requeue E;", "requeue P.E with abort;", "accept E;", "accept E (A : T);", "accept E (A : out T) do null; exception when others => null; end E;",
	"select accept E; end select;", "select when A => accept E; null; or when B => terminate; end select;", "select accept E; or delay 1; or when A => delay until 2; null; end select;", "select accept E; else null; end select;",
	"select F; or delay 1; end select;", "select F (1); null; or delay until 1; null; end select;", "select F; else null; end select;",
}

// declTexts does the same of declarations that stand in packages.
var declTexts = []string{
	"A : T;", "A, B : aliased constant T range 1 .. 2 := 1 with C => 1;", "A, B : constant := 1;", "A, B : exception;", "A : T renames P.all;", "A : exception renames P.E;", "package A renames P.Q;", "procedure A renames P.Q;", "procedure A (X : T) renames Q;",
	"function A return T renames Q;", "function A (X : T) return T renames Q;", "type A is (B, C);", "type A (D : T) is private;", "type A (D : T := 1) is record B : T; end record;", "type A (D : T) is new T;", "subtype A is T (1);", "use A, P.B;",
	"procedure A;", "procedure A (X : T);", "procedure A is begin null; end A;", "procedure A (X : T) is B : T; begin null; exception when others => null; end A;", "function A return T;", "function A (X : T) return P.T;", "function A return T is (1);", "function A (X : T) return T is ((1, 2));",
	"package A is end A;", "package A is B : T; private C : T; end A;", "package body A is end A;", "package body A is B : T; begin null; exception when others => null; end A;", "task A;", "task A with B => 1;", "task A with B => 1 is entry E; entry F (X : T); end A;",
	"task body A is begin null; end A;", "task body A is B : T; begin null; exception when others => null; end A;", "protected A is end A;", "protected A with B => 1 is procedure P; function F return T; entry E; private C : T; end A;",
	"protected body A is end A;", "protected body A is procedure P is begin null; end P; function F return T is (1); entry E when A is begin null; end E; end A;",
	"generic package A is end A;", "generic type A is private; X : T; with procedure P; with function F return T; procedure A (X : T);", "package A is new G;", "procedure A is new P.G (1, X => 2);",
	"procedure A is separate;", "procedure A (X : T) is separate;", "package body A is separate;", "task body A is separate;", "protected body A is separate;",
}

// inner has what stands in other declarations alone.
func inner() []api.Decl {
	return slices.Concat(
		decl("task T is entry E; entry F (A : out T); end T;").Decls,
		decl("protected body T is entry E when A is begin null; end E; entry F (X : T) when A = B is C : T; begin null; exception when others => null; end F; end T;").Decls,
		decl("generic type A is private; type B is (<>); type C is range <>; X, Y : in T := 1; Z : P.T; procedure G;").Formals,
		decl("generic with procedure P; with procedure P (X : T) is <>; with function F return T; with function F (X : T) return T is <>; procedure G;").Formals,
	)
}

func stmts() []api.Stmt { return each(stmt, stmtTexts...) }

func declarations() []api.Decl { return append(each(decl, declTexts...), inner()...) }

// values are values of fields: what is absent, valid, or not.
func values() []reflect.Value {
	var out []reflect.Value
	for _, x := range []any{
		"", "Y", "if", true, false, []string(nil), []string{}, []string{"A"}, []string{"A", "B"}, slices.Repeat([]string{"A"}, 8), slices.Repeat([]string{"A"}, 9), []string{"A", "is"},
		api.Expr{}, api.Expr{Line: 1, Ent: 2, T: 3}, ex("A"), ex("P.T"), ex("1"), ex("P.all"), ex("A (1)"), ex("A = B"), api.Expr{Kind: api.ExName}, api.Expr{S: "x"}, long(33), long(32),
		[]api.Expr(nil), []api.Expr{ex("A")}, slices.Repeat([]api.Expr{ex("P.T")}, 8), slices.Repeat([]api.Expr{ex("A")}, 9), []api.Expr{ex("A"), ex("1")},
		api.Disc{}, discs[0], discs[2], api.Disc{Lo: ex("1")}, api.Indic{}, indic("T"), indic("T (1)"), indic("T range 1 .. 2"), api.Indic{Lo: ex("1"), Hi: ex("1")},
		[]api.Aspect(nil), aspects[0], []api.Aspect{{}}, []api.Param(nil), params[0], params[1], params[2], []api.Param{params[0][0], params[0][0]}, []api.Param{{}}, []api.Comp(nil), comps[1], []api.Comp{{}},
		[]api.Assoc(nil), args[1], []api.Assoc{{}}, api.TypeDef{}, types[0], types[4], types[5], types[7], types[8], api.TypeDef{Kind: api.TdEnum}, api.TypeDef{Limited: true},
		[]api.Stmt(nil), []api.Stmt{}, []api.Stmt{{Kind: api.StNull}}, []api.Stmt{{}}, []api.Stmt{stmt("null;"), {Kind: api.StExit, Label: "1"}},
		[]api.Handler(nil), []api.Handler{{Others: true, Stmts: []api.Stmt{{Kind: api.StNull}}}}, []api.Handler{{}}, []api.Arm(nil), []api.Arm{{}}, []api.Arm{{Kind: api.ArmTerminate}},
	} {
		out = append(out, reflect.ValueOf(x))
	}
	for _, k := range []string{"A : T;", "procedure A;", "procedure A is begin null; end A;", "package A is end A;"} {
		out = append(out, reflect.ValueOf([]api.Decl{decl(k)}))
	}
	for _, d := range inner() {
		out = append(out, reflect.ValueOf([]api.Decl{d}))
	}
	return append(out, reflect.ValueOf([]api.Decl(nil)), reflect.ValueOf([]api.Decl{{}}))
}

// changed calls f with copies of a struct in which one field or another is another one, and its kind any other.
func changed[T any](x T, all []reflect.Value, f func(T)) {
	y := x
	v := reflect.ValueOf(&y).Elem()
	for i := range v.NumField() {
		field := v.Field(i)
		was := reflect.ValueOf(x).Field(i)
		for _, value := range all {
			if field.Type() == value.Type() {
				field.Set(value)
				f(y)
			}
		}
		if field.Kind() == reflect.Uint8 {
			for k := range uint64(30) {
				field.SetUint(k)
				f(y)
			}
			field.SetUint(255)
			f(y)
		}
		if field.Kind() == reflect.Int {
			field.SetInt(77)
			f(y)
		}
		field.Set(was)
	}
}

// agree fails the test unless something is valid exactly if it is by the reference; it counts both.
func agree[T any](t *testing.T, may func(T) bool, x T, yes, no *int) {
	t.Helper()
	ok := may(x)
	if ok != whole(x) {
		t.Fatalf("%v: %+v", ok, x)
	}
	if ok {
		*yes++
	} else {
		*no++
	}
}

// P5.1: each kind of statement and declaration, with each field changed, and with each other kind and sort.
func TestFields(t *testing.T) {
	all := values()
	yes, no := 0, 0
	for _, s := range stmts() {
		if !syntax.MayStmt(s) {
			t.Error(s)
		}
		changed(s, all, func(x api.Stmt) { agree(t, syntax.MayStmt, x, &yes, &no) })
	}
	if yes < 500 || no < 4000 {
		t.Error(yes, no)
	}
	yes, no = 0, 0
	for _, d := range declarations() {
		if !syntax.MayDecl(d) {
			t.Error(d)
		}
		changed(d, all, func(x api.Decl) { agree(t, syntax.MayDecl, x, &yes, &no) })
	}
	if yes < 500 || no < 4000 {
		t.Error(yes, no)
	}
}

// P5.1: kinds and sorts, also those that do not exist, without any fields, and with a name alone.
func TestKinds(t *testing.T) {
	yes, no := 0, 0
	for k := range 256 {
		agree(t, syntax.MayStmt, api.Stmt{Kind: api.StmtKind(k)}, &yes, &no)
		agree(t, syntax.MayStmt, api.Stmt{Kind: api.StmtKind(k), Label: "A"}, &yes, &no)
		for of := range 256 {
			agree(t, syntax.MayDecl, api.Decl{Kind: api.DeclKind(k), Of: api.OfKind(of)}, &yes, &no)
			agree(t, syntax.MayDecl, api.Decl{Kind: api.DeclKind(k), Of: api.OfKind(of), Names: []string{"A"}}, &yes, &no)
		}
	}
	if yes != 5+9+4+3 { // statements, declarations of other kinds, stubs, formal types
		t.Error(yes)
	}
}

// P5.1: arms of statements: each field of each arm, and their number and order.
func TestArms(t *testing.T) {
	all := append(values(), reflect.ValueOf([]api.Choice(nil)), reflect.ValueOf(choices[0]), reflect.ValueOf([]api.Choice{{}}))
	for _, s := range stmtTexts {
		all = append(all, reflect.ValueOf([]api.Stmt{stmt(s)}), reflect.ValueOf([]api.Stmt{stmt(s), stmt(s)}))
	}
	yes, no := 0, 0
	var arms []api.Arm
	for _, s := range stmts() {
		for i := range s.Arms {
			changed(s.Arms[i], all, func(a api.Arm) {
				x := s
				x.Arms = slices.Clone(s.Arms)
				x.Arms[i] = a
				agree(t, syntax.MayStmt, x, &yes, &no)
			})
		}
		arms = append(arms, s.Arms...)
		for n := range 19 {
			if x := s; len(s.Arms) > 0 {
				x.Arms = slices.Repeat(s.Arms[:1], n)
				agree(t, syntax.MayStmt, x, &yes, &no)
				x.Arms = append(slices.Repeat(s.Arms[len(s.Arms)-1:], n), s.Arms...)
				agree(t, syntax.MayStmt, x, &yes, &no)
			}
		}
	}
	for _, s := range stmts() {
		for _, a := range arms {
			for _, b := range arms {
				x := s
				x.Arms = []api.Arm{a, b}
				agree(t, syntax.MayStmt, x, &yes, &no)
				x.Arms = append(slices.Clone(s.Arms), b)
				agree(t, syntax.MayStmt, x, &yes, &no)
			}
		}
	}
	if yes < 500 || no < 4000 {
		t.Error(yes, no)
	}
}

// P5.1: which of ArmTerminate, ArmDelay and Else stand together.
func TestSelections(t *testing.T) {
	arms := map[string]api.Arm{"a": {Kind: api.ArmAccept, First: []api.Stmt{stmt("accept E;")}}, "d": {Kind: api.ArmDelay, First: []api.Stmt{stmt("delay 1;")}}, "t": {Kind: api.ArmTerminate}, "k": {Kind: api.ArmCall, First: []api.Stmt{stmt("F;")}}, "p": {Kind: api.ArmPlain, Cond: ex("A"), Stmts: []api.Stmt{stmt("null;")}}}
	for s, ok := range map[string]bool{
		"a": true, "aa": true, "ad": true, "da": true, "add": true, "dad": true, "at": true, "ta": true, "ata": true, "ae": true, "aae": true, "": false, "e": false, "d": false, "t": false, "te": false, "de": false, "dt": false, "adt": false, "atd": false, "ade": false, "ate": false, "att": false, "atat": false, "adte": false, "ak": false, "ka": false, "ap": false, "kd": false, "ke": false,
		strings.Repeat("a", 16): true, strings.Repeat("a", 17): false, strings.Repeat("d", 15) + "a": true, strings.Repeat("d", 16): false, strings.Repeat("d", 16) + "a": false, strings.Repeat("a", 16) + "e": true, strings.Repeat("a", 16) + "t": false,
	} {
		x := api.Stmt{Kind: api.StSelect}
		for _, c := range s {
			if c == 'e' {
				x.Else = []api.Stmt{stmt("null;")}
			} else {
				x.Arms = append(x.Arms, arms[string(c)])
			}
		}
		if syntax.MayStmt(x) != ok || whole(x) != ok {
			t.Error(s)
		}
	}
}

// P5.1: handlers: one or more marks or others, which only the last one has, and at most 16.
func TestHandlers(t *testing.T) {
	null := []api.Stmt{{Kind: api.StNull}}
	named := func(n int) api.Handler {
		return api.Handler{Names: slices.Repeat([]api.Expr{ex("P.E")}, n), Stmts: null}
	}
	others := api.Handler{Others: true, Stmts: null, Line: 9}
	yes, no := 0, 0
	check := func(want bool, l ...api.Handler) {
		t.Helper()
		for _, s := range []string{"begin null; end;", "accept E do null; end E;"} {
			x := stmt(s)
			x.Handlers = l
			agree(t, syntax.MayStmt, x, &yes, &no)
			if syntax.MayStmt(x) != want {
				t.Error(l)
			}
		}
		for _, s := range []string{"procedure A is begin null; end A;", "task body A is begin null; end A;", "package body A is begin null; end A;"} {
			x := decl(s)
			x.Handlers = l
			if syntax.MayDecl(x) != want || whole(x) != want {
				t.Error(l)
			}
		}
	}
	for n := range 19 {
		check(n >= 1 && n <= 16, named(n))
		check(n <= 16, slices.Repeat([]api.Handler{named(1)}, n)...)
		check(n <= 15, append(slices.Repeat([]api.Handler{named(2)}, n), others)...)
	}
	check(true, others)
	check(false, others, others)
	check(false, others, named(1))
	check(false, api.Handler{})
	check(false, api.Handler{Others: true})
	check(false, api.Handler{Names: []api.Expr{ex("E")}})
	check(false, api.Handler{Names: []api.Expr{ex("E")}, Others: true, Stmts: null})
	check(false, api.Handler{Names: []api.Expr{ex("E"), ex("E (1)")}, Stmts: null})
	check(false, api.Handler{Names: []api.Expr{{}}, Stmts: null})
	check(false, api.Handler{Others: true, Stmts: []api.Stmt{{}}})
	if x := decl("package body A is end A;"); syntax.MayDecl(func() api.Decl { x.Handlers = []api.Handler{others}; return x }()) {
		t.Error("handlers without statements")
	}
}

// P5.1: which kinds of declarations stand in which.
func TestPlaces(t *testing.T) {
	yes, no := 0, 0
	outer := declarations()
	for _, d := range outer {
		for _, in := range outer {
			for n := 1; n < 10; n += 8 {
				l := slices.Repeat([]api.Decl{in}, n)
				x := d
				x.Decls = l
				agree(t, syntax.MayDecl, x, &yes, &no)
				x = d
				x.Private = l
				agree(t, syntax.MayDecl, x, &yes, &no)
				x = d
				x.Formals = l
				agree(t, syntax.MayDecl, x, &yes, &no)
			}
		}
	}
	for _, s := range stmts() {
		for _, in := range outer {
			x := s
			x.Decls = []api.Decl{in}
			agree(t, syntax.MayStmt, x, &yes, &no)
		}
	}
	if yes < 500 || no < 4000 {
		t.Error(yes, no)
	}
	entry, formal := inner()[0], inner()[4]
	for n := range 12 {
		task := api.Decl{Kind: api.DcTask, Names: []string{"T"}, Decls: slices.Repeat([]api.Decl{entry}, n)}
		object := api.Decl{Kind: api.DcProtected, Names: []string{"T"}, Decls: slices.Repeat([]api.Decl{entry}, n)}
		generic := api.Decl{Kind: api.DcGeneric, Formals: slices.Repeat([]api.Decl{formal}, n), Decls: []api.Decl{decl("procedure A;")}}
		if syntax.MayDecl(task) != (n <= 8) || !syntax.MayDecl(object) || syntax.MayDecl(generic) != (n <= 8) {
			t.Error(n)
		}
	}
}

// P5.1: units: how many names and marks, and which declarations with and without a parent.
func TestUnits(t *testing.T) {
	d := decl("package A is end A;")
	for n := range 20 {
		if syntax.May(api.Unit{With: slices.Repeat([]string{"A"}, n), D: d}) != (n <= 16) || syntax.May(api.Unit{Use: slices.Repeat([]api.Expr{ex("P.A")}, n), D: d}) != (n <= 16) {
			t.Error(n)
		}
	}
	for _, d := range append(declarations(), api.Decl{}) {
		for _, parent := range []api.Expr{{}, {Line: 3}, ex("P"), ex("P.Q"), ex("P.all"), ex("1"), long(32), long(33), {Kind: api.ExName}, {S: "P"}} {
			u := api.Unit{Parent: parent, D: d}
			if syntax.May(u) != mayUnit(u) {
				t.Error(u)
			}
		}
	}
	for i, u := range []api.Unit{{With: []string{"if"}, D: d}, {With: []string{"A", ""}, D: d}, {Use: []api.Expr{{}}, D: d}, {Use: []api.Expr{ex("A"), ex("A (1)")}, D: d}, {Use: []api.Expr{long(33)}, D: d}, {}} {
		if syntax.May(u) {
			t.Error(i)
		}
	}
}

// nest returns something in which a statement or declaration is one deeper each time, in one field after the other.
func nest(t *testing.T, x any, times int) any {
	for i := range times {
		switch y := x.(type) {
		case api.Stmt:
			x = around(y, i)
		case api.Decl:
			l := []api.Decl{y}
			x = []any{
				api.Stmt{Kind: api.StBlock, Decls: l, Stmts: []api.Stmt{{Kind: api.StNull}}}, api.Decl{Kind: api.DcPackage, Names: []string{"A"}, Decls: l}, api.Decl{Kind: api.DcPackage, Names: []string{"A"}, Private: l},
				api.Decl{Kind: api.DcPackageBody, Names: []string{"A"}, Decls: l}, api.Decl{Kind: api.DcTaskBody, Names: []string{"A"}, Decls: l, Stmts: []api.Stmt{{Kind: api.StNull}}},
			}[i%5]
			if y.Kind == api.DcPackage && i%3 == 0 {
				x = api.Decl{Kind: api.DcGeneric, Decls: l}
			}
		}
	}
	return x
}

func around(s api.Stmt, i int) any {
	l := []api.Stmt{s}
	null := []api.Stmt{{Kind: api.StNull}}
	call, accept := []api.Stmt{stmt("F;")}, []api.Stmt{stmt("accept E;")}
	return []any{
		api.Stmt{Kind: api.StLoop, Stmts: l},
		api.Stmt{Kind: api.StIf, Arms: []api.Arm{{Kind: api.ArmPlain, Cond: ex("A"), Stmts: l}}},
		api.Stmt{Kind: api.StIf, Arms: []api.Arm{{Kind: api.ArmPlain, Cond: ex("A"), Stmts: null}}, Else: l},
		api.Stmt{Kind: api.StAccept, Var: "E", Body: true, Stmts: null, Handlers: []api.Handler{{Others: true, Stmts: l}}},
		api.Stmt{Kind: api.StSelect, Arms: []api.Arm{{Kind: api.ArmAccept, First: accept, Stmts: l}}},
		api.Stmt{Kind: api.StCond, Arms: []api.Arm{{Kind: api.ArmCall, First: call, Stmts: l}}, Else: null},
		api.Decl{Kind: api.DcProcBody, Names: []string{"A"}, Stmts: null, Handlers: []api.Handler{{Names: []api.Expr{ex("E")}, Stmts: l}}},
		api.Decl{Kind: api.DcPackageBody, Names: []string{"A"}, Stmts: l},
	}[i%8]
}

// P5.1: how deep and how many statements and declarations can be, through each field that has some.
func TestLimits(t *testing.T) {
	may := func(x any) bool {
		switch y := x.(type) {
		case api.Stmt:
			return syntax.MayStmt(y)
		case api.Decl:
			return syntax.MayDecl(y)
		}
		panic(x)
	}
	for _, x := range []any{stmt("null;"), decl("A : T;"), decl("package A is end A;"), stmt("accept E;")} {
		for n := range 50 {
			y := nest(t, x, n)
			if deep := depth(reflect.ValueOf(y)); may(y) != (deep <= 32) || may(y) != whole(y) {
				t.Error(n, deep)
			}
		}
	}
	first := stmt("accept E do null; end E;")
	for range 30 {
		first = api.Stmt{Kind: api.StAccept, Var: "E", Body: true, Stmts: []api.Stmt{first}}
	}
	if !syntax.MayStmt(first) || syntax.MayStmt(api.Stmt{Kind: api.StSelect, Arms: []api.Arm{{Kind: api.ArmAccept, First: []api.Stmt{first}}}}) {
		t.Error("first")
	}
	for n := 2045; n < 2051; n++ {
		null := slices.Repeat([]api.Stmt{{Kind: api.StNull}}, n)
		objects := slices.Repeat([]api.Decl{decl("A : T;")}, n)
		half := n / 2
		for i, x := range []any{
			api.Stmt{Kind: api.StLoop, Stmts: null}, api.Decl{Kind: api.DcPackage, Names: []string{"A"}, Decls: objects}, api.Decl{Kind: api.DcPackage, Names: []string{"A"}, Decls: objects[:half], Private: objects[half:]},
			api.Decl{Kind: api.DcTaskBody, Names: []string{"A"}, Decls: objects[:half], Stmts: null[half:]}, api.Stmt{Kind: api.StBlock, Stmts: null[:half], Handlers: []api.Handler{{Others: true, Stmts: null[half:]}}},
			api.Stmt{Kind: api.StIf, Arms: []api.Arm{{Kind: api.ArmPlain, Cond: ex("A"), Stmts: null[:half]}}, Else: null[half:]},
		} {
			if may(x) != (n < 2048) {
				t.Error(n, i)
			}
		}
		u := api.Unit{D: api.Decl{Kind: api.DcPackage, Names: []string{"A"}, Decls: objects}}
		if syntax.Size(u) != n+1 || syntax.May(u) != (n < 2048) {
			t.Error(n)
		}
	}
}

// P5.1: Size, of what is valid or not, and through each field.
func TestSize(t *testing.T) {
	if n := syntax.Size(unit("procedure P is begin null; end P;")); n != 2 { // the chapter's example
		t.Error(n)
	}
	if n := syntax.Size(unit("procedure Main is begin L : loop exit L when A; end loop L; end Main;")); n != 3 {
		t.Error(n)
	}
	two := []api.Stmt{{}, {}}
	three := []api.Decl{{}, {}, {}}
	handlers := []api.Handler{{Stmts: two}, {Stmts: two}}
	s := api.Stmt{Decls: three, Stmts: two, Else: two, Arms: []api.Arm{{First: two, Stmts: two}, {Stmts: two}}, Handlers: handlers}
	for i, x := range []struct {
		d api.Decl
		n int
	}{
		{api.Decl{}, 1}, {api.Decl{Formals: three}, 4}, {api.Decl{Decls: three, Private: three}, 7}, {api.Decl{Stmts: two, Handlers: handlers}, 7}, {api.Decl{Stmts: []api.Stmt{s}}, 19}, {api.Decl{Decls: []api.Decl{{Stmts: []api.Stmt{s, s}}}}, 38},
	} {
		if n := syntax.Size(api.Unit{With: []string{"A"}, D: x.d}); n != x.n {
			t.Error(i, n)
		}
	}
}

// P5.1: Name.
func TestName(t *testing.T) {
	for s, want := range map[string]string{
		"separate (P.R) procedure Q is begin null; end Q;":                 "P.R.Q body", // the chapter's examples
		"with A, B; use A; separate (P) task body T is begin null; end T;": "P.T body",
		"package P is end P;": "P", "package body P is end P;": "P body", "procedure P is begin null; end P;": "P body", "generic procedure G;": "G", "generic X : T; package G is end G;": "G", "package P is new G;": "P", "procedure P is new G;": "P",
		"separate (A) package body P is end P;": "A.P body", "separate (A) protected body P is end P;": "A.P body",
	} {
		name, body := syntax.Name(unit(s))
		if body {
			name += " body"
		}
		if name != want {
			t.Error(s, name)
		}
	}
	parent := long(32)
	for x := &parent; ; x = &x.L[0] {
		if x.S = strings.Repeat("n", 32); x.Kind == api.ExName {
			break
		}
	}
	name, body := syntax.Name(api.Unit{Parent: parent, D: decl("task body T is begin null; end T;")})
	if name != strings.Repeat(strings.Repeat("n", 32)+".", 32)+"T" || !body {
		t.Error("a long parent:", name)
	}
	for i, u := range []api.Unit{{}, {D: decl("procedure P;")}, {D: decl("task body T is begin null; end T;")}, {Parent: ex("P"), D: decl("package P is end P;")}, {D: api.Decl{Kind: api.DcGeneric}}, {D: api.Decl{Kind: api.DcPackage}}} {
		if name, body := syntax.Name(u); name != "" || body {
			t.Error(i, name)
		}
	}
}

// P5.1: Same finds each field that is considered, at any place, and no other; lists without elements are equal.
func TestSame(t *testing.T) {
	units := []api.Unit{}
	for _, s := range stmts() {
		units = append(units, api.Unit{D: api.Decl{Stmts: []api.Stmt{s}}})
	}
	for _, d := range declarations() {
		units = append(units, api.Unit{D: d}, api.Unit{D: api.Decl{Private: []api.Decl{d}}})
	}
	for i, a := range units {
		for j, b := range units {
			if syntax.Same(a, b) != (i == j) || same(a, b) != (i == j) {
				t.Error(i, j)
			}
		}
	}
	equal, other := 0, 0
	all := append(values(), reflect.ValueOf([]api.Choice{{}}))
	compare := func(a, b api.Unit) {
		t.Helper()
		ok := same(a, b)
		if syntax.Same(a, b) != ok || syntax.Same(b, a) != ok {
			t.Fatal(a, b)
		}
		if ok {
			equal++
		} else {
			other++
		}
	}
	for _, s := range append(stmts(), api.Stmt{}) {
		changed(s, all, func(x api.Stmt) {
			compare(api.Unit{D: api.Decl{Stmts: []api.Stmt{s}}}, api.Unit{D: api.Decl{Stmts: []api.Stmt{x}}})
		})
		for i := range s.Arms {
			changed(s.Arms[i], all, func(a api.Arm) {
				x := s
				x.Arms = slices.Clone(s.Arms)
				x.Arms[i] = a
				compare(api.Unit{D: api.Decl{Stmts: []api.Stmt{s}}}, api.Unit{D: api.Decl{Stmts: []api.Stmt{x}}})
			})
		}
		for i := range s.Handlers {
			changed(s.Handlers[i], all, func(h api.Handler) {
				x := s
				x.Handlers = slices.Clone(s.Handlers)
				x.Handlers[i] = h
				compare(api.Unit{D: api.Decl{Stmts: []api.Stmt{s}}}, api.Unit{D: api.Decl{Stmts: []api.Stmt{x}}})
			})
		}
	}
	for _, d := range append(declarations(), api.Decl{}) {
		changed(d, all, func(x api.Decl) { compare(api.Unit{D: d}, api.Unit{D: x}) })
		u := api.Unit{With: []string{"A"}, Use: []api.Expr{ex("A")}, Parent: ex("P"), D: d}
		changed(u, all, func(x api.Unit) { compare(u, x) })
	}
	if equal < 500 || other < 5000 {
		t.Error(equal, other)
	}
}

// P5.1 and P5.2: random units, and what is nearly the same.
func TestRandomUnits(t *testing.T) {
	m := newMaker(4)
	good, bad, equal, other := 0, 0, 0, 0
	for range 1000 {
		u := m.unit(m.Intn(15))
		for range 3 {
			v := spoiled(m, u)
			before := copied(v, false)
			ok := mayUnit(v)
			if syntax.May(v) != ok || syntax.Same(u, v) != same(u, v) || syntax.Same(v, u) != same(u, v) || !syntax.Same(v, v) || syntax.Size(v) != size(reflect.ValueOf(v)) {
				t.Fatalf("%+v\n%+v", u, v)
			}
			if !reflect.DeepEqual(copied(v, false), before) {
				t.Fatal("an argument has changed")
			}
			if ok {
				good++
				writesUnit(t, v)
			} else if l, e := syntax.Lines(v); len(l) != 0 || e != api.ErrArg {
				t.Fatal(e)
			} else {
				bad++
			}
			if same(u, v) {
				equal++
			} else {
				other++
			}
			u = v
		}
	}
	if good < 500 || bad < 500 || equal < 100 || other < 1000 {
		t.Error(good, bad, equal, other)
	}
}

// deep returns a unit nested as deep as that, by loops.
func deep(depth int) api.Unit {
	s := api.Stmt{Kind: api.StNull}
	for range depth {
		s = api.Stmt{Kind: api.StLoop, Stmts: []api.Stmt{s}}
	}
	return api.Unit{D: api.Decl{Kind: api.DcProcBody, Names: []string{"P"}, Stmts: []api.Stmt{s}}}
}

// P5.1: trees deeper than calls can be nested, long lists, and trees whose parts are one tree, more than could be counted.
func TestTotal(t *testing.T) {
	small(t)
	const many = 50000
	a, b, c := deep(many), deep(many), deep(many-1)
	if syntax.May(a) || syntax.MayDecl(a.D) || syntax.MayStmt(a.D.Stmts[0]) || syntax.Size(a) != many+2 || !syntax.Same(a, b) || syntax.Same(a, c) || syntax.Same(c, a) {
		t.Error("deep")
	}
	d := decl("package A is end A;")
	for range many {
		d = api.Decl{Kind: api.DcPackage, Names: []string{"A"}, Private: []api.Decl{d}}
	}
	if syntax.MayDecl(d) || syntax.Size(api.Unit{D: d}) != many+1 {
		t.Error("deep declarations")
	}
	wide := stmt("null;")
	wideDecl := decl("A : T;")
	x := ex("A")
	for range 100 {
		wide = api.Stmt{Kind: api.StLoop, Stmts: []api.Stmt{wide, wide}}
		wideDecl = api.Decl{Kind: api.DcPackage, Names: []string{"A"}, Decls: []api.Decl{wideDecl, wideDecl}, Private: []api.Decl{wideDecl}}
		x = api.Expr{Kind: api.ExDyadic, Oper: api.OperAdd, L: []api.Expr{x, x}}
	}
	for i, y := range []api.Stmt{wide, {Kind: api.StDelay, E: x}, {Kind: api.StAssign, Name: x, E: x}, {Kind: api.StRaise, Name: x}, {Kind: api.StAbort, Names: []api.Expr{x}}, {Kind: api.StExit, Cond: x}, {Kind: api.StIf, Arms: []api.Arm{{Kind: api.ArmPlain, Cond: x, Stmts: []api.Stmt{wide}}}}, {Kind: api.StNull, Stmts: []api.Stmt{wide}}} {
		if syntax.MayStmt(y) {
			t.Error("wide", i)
		}
	}
	if syntax.MayDecl(wideDecl) || syntax.May(api.Unit{D: wideDecl}) || syntax.May(api.Unit{Parent: x, D: wideDecl}) || syntax.May(api.Unit{Use: []api.Expr{x}, D: wideDecl}) {
		t.Error("wide declarations")
	}
	if name, body := syntax.Name(api.Unit{D: wideDecl}); name != "" || body {
		t.Error(name)
	}
	names, exprs := slices.Repeat([]string{"A"}, many), slices.Repeat([]api.Expr{ex("A")}, many)
	null := slices.Repeat([]api.Stmt{{Kind: api.StNull}}, many)
	for i, u := range []api.Unit{{With: names}, {Use: exprs}, {D: api.Decl{Kind: api.DcObject, Names: names, Sub: indic("T")}}, {D: api.Decl{Kind: api.DcUse, Uses: exprs}}, {D: api.Decl{Kind: api.DcPackageBody, Names: []string{"A"}, Stmts: null}}, {D: api.Decl{Kind: api.DcProtectedBody, Names: []string{"A"}, Decls: make([]api.Decl, many)}}} {
		if l, e := syntax.Lines(u); syntax.May(u) || len(l) != 0 || e != api.ErrArg || !syntax.Same(u, u) {
			t.Error("length", i)
		}
	}
	for i, s := range []api.Stmt{{Kind: api.StAbort, Names: exprs}, {Kind: api.StIf, Arms: make([]api.Arm, many)}, {Kind: api.StSelect, Arms: make([]api.Arm, many)}, {Kind: api.StTimed, Arms: make([]api.Arm, many)}, {Kind: api.StBlock, Stmts: null[:1], Handlers: make([]api.Handler, many)}} {
		if syntax.MayStmt(s) {
			t.Error("length of a statement", i)
		}
	}
}
