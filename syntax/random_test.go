package syntax_test

import (
	"math/rand"
	"reflect"
	"slices"
	"strings"

	"ceiling/api"
	"ceiling/expr"
	"ceiling/shape"
)

// A maker makes random things that are valid, if they are not too large in all.
type maker struct {
	*rand.Rand
	left int // how many further statements and declarations it is to make, about
}

func newMaker(seed int64) *maker { return &maker{Rand: rand.New(rand.NewSource(seed))} }

func pick[T any](m *maker, l ...T) T { return l[m.Intn(len(l))] }

func (m *maker) word() string {
	return pick(m, "A", "B", "C", "X", "T", "x_9", "Begin", strings.Repeat("n", 32))
}

func (m *maker) names(most int) []string {
	l := []string{m.word()}
	for m.Intn(3) == 0 && len(l) < most {
		l = append(l, m.word())
	}
	return l
}

// What lower layers read is chosen out of these.
var (
	exprs   = each(ex, "A", "1", "null", "P.T", "P.all", "A'First", "F (X, N => 1)", "T'(1)", "T'(A, B)", "(1, 2)", "(others => 1)", "(if A then B else C)", "not A", "- A", "A + B", "A = B", "A in T", "A not in 1 .. 2", "A and B and C", "(A = B) = C")
	forms   = each(ex, "A", "P.T", "P.all", "A'First", "F (X, N => 1)", "T'(1)", "P.all.B (1) (2)")
	calls   = each(ex, "A", "P.T", "F (X, N => 1)", "P.all.B", "A (1) (2)", "A'B (1)", "T'(A).B")
	marked  = each(ex, "A", "P.T", "A.B.C", "Begin.x_9")
	indics  = each(indic, "T", "P.T", "T range 1 .. 2", "R (A = B)", "P.R (1)", "T range (A = B) .. C")
	discs   = each(func(s string) api.Disc { return front(s, shape.FrontDisc) }, "T", "A'Range", "1 .. N", "P.T range A .. B", "(A = B) .. F (1)")
	params  = each(func(s string) []api.Param { return front(s, shape.FrontParams) }, "A : T", "A, B : in out P.T; C : T := 1", "X : out T", "A : T := (1, 2); B : T")
	aspects = each(func(s string) []api.Aspect { return front(s, shape.FrontAspects) }, "Priority => 3", "A => B or C, D => F (1)")
	comps   = each(func(s string) []api.Comp { return front(s, shape.FrontComps) }, "A : T;", "A, B : P.T range 1 .. 2 := 1; C : R (1);")
	args    = each(func(s string) []api.Assoc { return front(s, expr.FrontArgs) }, "1", "A, X => B + 1", "X => 1, Y => 2")
	choices = each(func(s string) []api.Choice { return front(s, expr.FrontChoices) }, "1", "1 | A .. B", "others", "A + B | 2")
	types   = each(func(s string) api.TypeDef { return front(s, shape.FrontType) }, "(A, B)", "range 1 .. 2", "array (T) of T (1)", "access T", "null record", "private", "limited private", "new T range 1 .. 2", "record A : T; B : T := 1; end record", "record A : T; case D is when 1 => null; when others => B : T; C : T; end case; end record")
)

func each[T any](f func(string) T, l ...string) []T {
	var out []T
	for _, s := range l {
		out = append(out, f(s))
	}
	return out
}

// perhaps returns one of some things, or the zero one.
func perhaps[T any](m *maker, l []T) T {
	if m.Intn(2) == 0 {
		var none T
		return none
	}
	return pick(m, l...)
}

func (m *maker) marks(most int) []api.Expr {
	l := []api.Expr{pick(m, marked...)}
	for m.Intn(3) == 0 && len(l) < most {
		l = append(l, pick(m, marked...))
	}
	return l
}

func (m *maker) label() string { return perhaps(m, []string{"L", "x_1"}) }

// some returns about as many things as it may.
func some[T any](m *maker, least, most int, one func() T) []T {
	var l []T
	for len(l) < least || len(l) < most && m.left > 0 && m.Intn(3) > 0 {
		l = append(l, one())
	}
	return l
}

func (m *maker) stmts(least int) []api.Stmt { return some(m, least, 5, m.stmt) }

func (m *maker) handlers() []api.Handler {
	if m.Intn(2) == 0 {
		return nil
	}
	l := some(m, 0, 3, func() api.Handler { return api.Handler{Names: m.marks(16), Stmts: m.stmts(1)} })
	if len(l) == 0 || m.Intn(2) == 0 {
		l = append(l, api.Handler{Others: true, Stmts: m.stmts(1)})
	}
	return l
}

// stmt returns a statement, one without others in it if no more are to be made.
func (m *maker) stmt() api.Stmt {
	m.left--
	if m.left > 0 && m.Intn(2) == 0 {
		return m.nested()
	}
	switch k := pick(m, api.StNull, api.StAssign, api.StCall, api.StExit, api.StReturn, api.StRaise, api.StDelay, api.StUntil, api.StAbort, api.StRequeue, api.StAccept); k {
	case api.StAssign:
		return api.Stmt{Kind: k, Name: pick(m, forms...), E: pick(m, exprs...)}
	case api.StCall:
		return api.Stmt{Kind: k, Name: pick(m, calls...)}
	case api.StExit:
		return api.Stmt{Kind: k, Label: m.label(), Cond: perhaps(m, exprs)}
	case api.StRaise:
		return api.Stmt{Kind: k, Name: perhaps(m, marked)}
	case api.StDelay, api.StUntil:
		return api.Stmt{Kind: k, E: pick(m, exprs...)}
	case api.StAbort:
		return api.Stmt{Kind: k, Names: m.marks(8)}
	case api.StRequeue:
		return api.Stmt{Kind: k, Name: pick(m, marked...), Abort: m.Intn(2) == 0}
	case api.StAccept:
		return api.Stmt{Kind: k, Var: m.word(), Params: perhaps(m, params)}
	default:
		return api.Stmt{Kind: k}
	}
}

func (m *maker) nested() api.Stmt {
	switch k := pick(m, api.StIf, api.StCase, api.StLoop, api.StWhile, api.StFor, api.StBlock, api.StAccept, api.StSelect, api.StTimed, api.StCond); k {
	case api.StIf:
		return api.Stmt{Kind: k, Else: m.stmts(0), Arms: some(m, 1, 16, func() api.Arm {
			return api.Arm{Kind: api.ArmPlain, Cond: pick(m, exprs...), Stmts: m.stmts(1)}
		})}
	case api.StCase:
		return api.Stmt{Kind: k, E: pick(m, exprs...), Arms: some(m, 1, 16, func() api.Arm {
			return api.Arm{Kind: api.ArmPlain, Choices: pick(m, choices...), Stmts: m.stmts(1)}
		})}
	case api.StLoop:
		return api.Stmt{Kind: k, Label: m.label(), Stmts: m.stmts(1)}
	case api.StWhile:
		return api.Stmt{Kind: k, Label: m.label(), Cond: pick(m, exprs...), Aspects: perhaps(m, aspects), Stmts: m.stmts(1)}
	case api.StFor:
		return api.Stmt{Kind: k, Label: m.label(), Var: m.word(), Reverse: m.Intn(2) == 0, Disc: pick(m, discs...), Stmts: m.stmts(1)}
	case api.StBlock:
		return api.Stmt{Kind: k, Label: m.label(), Decls: m.decls(), Stmts: m.stmts(1), Handlers: m.handlers()}
	case api.StAccept:
		return m.accept()
	case api.StSelect:
		return m.selection()
	case api.StTimed:
		return api.Stmt{Kind: k, Arms: []api.Arm{m.called(), m.delayed()}}
	default:
		return api.Stmt{Kind: k, Arms: []api.Arm{m.called()}, Else: m.stmts(1)}
	}
}

func (m *maker) accept() api.Stmt {
	s := api.Stmt{Kind: api.StAccept, Var: m.word(), Params: perhaps(m, params), Body: m.Intn(2) == 0}
	if s.Body {
		s.Stmts, s.Handlers = m.stmts(1), m.handlers()
	}
	return s
}

func (m *maker) called() api.Arm {
	m.left--
	return api.Arm{Kind: api.ArmCall, First: []api.Stmt{{Kind: api.StCall, Name: pick(m, calls...)}}, Stmts: m.stmts(0)}
}

func (m *maker) delayed() api.Arm {
	m.left--
	s := api.Stmt{Kind: pick(m, api.StDelay, api.StUntil), E: pick(m, exprs...)}
	return api.Arm{Kind: api.ArmDelay, First: []api.Stmt{s}, Stmts: m.stmts(0)}
}

func (m *maker) selection() api.Stmt {
	s := api.Stmt{Kind: api.StSelect, Arms: some(m, 1, 5, func() api.Arm {
		return api.Arm{Kind: api.ArmAccept, First: []api.Stmt{m.accept()}, Stmts: m.stmts(0)}
	})}
	switch m.Intn(4) {
	case 0:
		s.Else = m.stmts(1)
	case 1:
		s.Arms = append(s.Arms, some(m, 1, 3, m.delayed)...)
	case 2:
		s.Arms = append(s.Arms, api.Arm{Kind: api.ArmTerminate})
	}
	m.Shuffle(len(s.Arms), func(i, j int) { s.Arms[i], s.Arms[j] = s.Arms[j], s.Arms[i] })
	for i := range s.Arms {
		s.Arms[i].Cond = perhaps(m, exprs)
	}
	return s
}

func (m *maker) decls() []api.Decl {
	return some(m, 0, 5, func() api.Decl {
		k := api.DeclKind(1 + m.Intn(20))
		switch {
		case k == api.DcEntry || k == api.DcEntryBody:
			k = api.DcInstance
		case m.Intn(20) == 0:
			k = api.DcStub
		}
		return m.decl(k)
	})
}

// of returns declarations of some kinds.
func (m *maker) of(most int, kinds ...api.DeclKind) []api.Decl {
	return some(m, 0, most, func() api.Decl { return m.decl(pick(m, kinds...)) })
}

// decl returns a declaration of a kind.
func (m *maker) decl(k api.DeclKind) api.Decl {
	m.left--
	d := api.Decl{Kind: k, Names: []string{m.word()}}
	switch k {
	case api.DcObject:
		d.Names, d.Aliased, d.Constant, d.Sub, d.E, d.Aspects = m.names(8), m.Intn(3) == 0, m.Intn(3) == 0, pick(m, indics...), perhaps(m, exprs), perhaps(m, aspects)
	case api.DcNumber:
		d.Names, d.E = m.names(8), pick(m, exprs...)
	case api.DcException:
		d.Names = m.names(8)
	case api.DcRename:
		m.rename(&d)
	case api.DcType:
		d.Type = pick(m, types...)
		if k := d.Type.Kind; k == api.TdRecord || k == api.TdPrivate || k == api.TdDerived {
			d.Disc = perhaps(m, [][]api.Param{{params[0][0]}, {params[3][0]}})
		}
	case api.DcSubtype:
		d.Sub = pick(m, indics...)
	case api.DcUse:
		d.Names, d.Uses = nil, m.marks(8)
	case api.DcProc, api.DcEntry, api.DcFormalProc, api.DcFunc, api.DcFuncBody, api.DcFormalFunc:
		m.profile(&d)
	case api.DcInstance:
		d.Of, d.Name, d.Actuals = pick(m, api.OfPackage, api.OfProc), pick(m, marked...), perhaps(m, args)
	case api.DcStub:
		if d.Of = pick(m, api.OfProc, api.OfPackage, api.OfTask, api.OfProtected); d.Of == api.OfProc {
			d.Params = perhaps(m, params)
		}
	case api.DcFormalType:
		d.Of = pick(m, api.OfPrivate, api.OfDiscrete, api.OfInteger)
	case api.DcFormalObject:
		d.Names, d.Sub.Name, d.E = m.names(8), pick(m, marked...), perhaps(m, exprs)
	default:
		m.scope(&d)
	}
	return d
}

func (m *maker) rename(d *api.Decl) {
	d.Of, d.Name = pick(m, api.OfObject, api.OfException, api.OfPackage, api.OfProc, api.OfFunc), pick(m, marked...)
	switch d.Of {
	case api.OfObject:
		d.Sub.Name, d.Name = pick(m, marked...), pick(m, forms...)
	case api.OfProc:
		d.Params = perhaps(m, params)
	case api.OfFunc:
		d.Params, d.Result = perhaps(m, params), pick(m, marked...)
	}
}

func (m *maker) profile(d *api.Decl) {
	d.Params = perhaps(m, params)
	switch d.Kind {
	case api.DcFunc, api.DcFuncBody, api.DcFormalFunc:
		d.Result = pick(m, marked...)
	}
	switch d.Kind {
	case api.DcFuncBody:
		d.E = pick(m, exprs...)
	case api.DcFormalProc, api.DcFormalFunc:
		d.Box = m.Intn(2) == 0
	}
}

// scope fills in a declaration that has others or statements.
func (m *maker) scope(d *api.Decl) {
	switch d.Kind {
	case api.DcPackage:
		d.Decls, d.Private = m.decls(), m.decls()
	case api.DcTask:
		d.Aspects, d.Decls = perhaps(m, aspects), m.of(8, api.DcEntry)
	case api.DcProtected:
		d.Aspects, d.Decls, d.Comps = perhaps(m, aspects), m.of(9, api.DcProc, api.DcFunc, api.DcEntry), perhaps(m, comps)
	case api.DcProtectedBody:
		d.Decls = m.of(9, api.DcProcBody, api.DcFuncBody, api.DcEntryBody)
	case api.DcGeneric:
		d.Names = nil
		d.Formals = m.of(8, api.DcFormalType, api.DcFormalObject, api.DcFormalProc, api.DcFormalFunc)
		d.Decls = []api.Decl{m.decl(pick(m, api.DcPackage, api.DcProc))}
	case api.DcPackageBody:
		d.Decls = m.decls()
		if m.Intn(2) == 0 {
			d.Stmts, d.Handlers = m.stmts(1), m.handlers()
		}
	default:
		d.Decls, d.Stmts, d.Handlers = m.decls(), m.stmts(1), m.handlers()
		if d.Kind != api.DcTaskBody {
			d.Params = perhaps(m, params)
		}
		if d.Kind == api.DcEntryBody {
			d.Cond = pick(m, exprs...)
		}
	}
}

// unit returns a valid unit of about so many statements and declarations.
func (m *maker) unit(about int) api.Unit {
	for {
		m.left = about
		u := api.Unit{Parent: perhaps(m, marked)}
		if m.Intn(2) == 0 {
			u.With, u.Use = m.names(16), m.marks(16)
		}
		if absent(reflect.ValueOf(u.Parent)) {
			u.D = m.decl(pick(m, api.DcPackage, api.DcPackageBody, api.DcProcBody, api.DcGeneric, api.DcInstance))
		} else {
			u.D = m.decl(pick(m, api.DcProcBody, api.DcPackageBody, api.DcTaskBody, api.DcProtectedBody))
		}
		if mayUnit(u) {
			return u
		}
	}
}

// spoiled returns a copy of a value in which one field, or one element of a list, is another one.
func spoiled[T any](m *maker, x T) T {
	y := copied(x, false)
	var places []reflect.Value
	var gather func(reflect.Value)
	gather = func(v reflect.Value) {
		switch {
		case v.Type() == reflect.TypeFor[api.Expr]():
			places = append(places, v, v.FieldByName("Line"))
		case v.Kind() == reflect.Struct:
			for i := range v.NumField() {
				gather(v.Field(i))
			}
		case v.Kind() == reflect.Slice:
			places = append(places, v)
			for i := range v.Len() {
				gather(v.Index(i))
			}
		default:
			places = append(places, v)
		}
	}
	gather(reflect.ValueOf(&y).Elem())
	m.change(places[m.Intn(len(places))])
	return y
}

// change sets a value to another one, or perhaps to the same.
func (m *maker) change(v reflect.Value) {
	switch v.Kind() {
	case reflect.Struct: // an expression
		v.Set(reflect.ValueOf(pick(m, pick(m, exprs...), pick(m, odds...))))
	case reflect.Slice:
		m.changeList(v)
	case reflect.String:
		v.SetString(pick(m, "", "if", "Y", "1", strings.Repeat("n", 33)))
	case reflect.Bool:
		v.SetBool(!v.Bool())
	case reflect.Uint8:
		v.SetUint(uint64(pick(m, m.Intn(28), m.Intn(6), 255)))
	default:
		v.SetInt(v.Int() + 5)
	}
}

func (m *maker) changeList(v reflect.Value) {
	n := v.Len()
	switch {
	case n > 0 && m.Intn(2) == 0:
		v.SetLen(n - 1)
	case n > 0 && m.Intn(2) == 0:
		for range 1 + m.Intn(17) {
			v.Set(reflect.Append(v, v.Index(0)))
		}
	case n > 1 && m.Intn(2) == 0:
		reflect.Swapper(v.Interface())(0, n-1)
	default:
		v.Set(reflect.Append(v, m.element(v.Type().Elem())))
	}
}

// element returns a new element of a list, valid or zero.
func (m *maker) element(t reflect.Type) reflect.Value {
	m.left = 3
	switch t {
	case stmtType:
		return reflect.ValueOf(pick(m, m.stmt(), m.nested(), api.Stmt{}))
	case declType:
		return reflect.ValueOf(m.decl(api.DeclKind(1 + m.Intn(26))))
	case reflect.TypeFor[api.Expr]():
		return reflect.ValueOf(pick(m, marked...))
	case reflect.TypeFor[string]():
		return reflect.ValueOf(m.word())
	}
	return reflect.Zero(t)
}

// odds are expressions that are absent, or nearly so, or not valid.
var odds = []api.Expr{{}, {Line: 5, Ent: 6, T: 7}, {S: "x"}, {L: []api.Expr{{}}}, {Kind: api.ExMonadic}, {Kind: api.ExName, S: "if"}, {Kind: api.ExInt, N: -1}, long(33)}

// long returns a mark of n names.
func long(n int) api.Expr {
	x := api.Expr{Kind: api.ExName, S: "A"}
	for range n - 1 {
		x = api.Expr{Kind: api.ExSelect, S: "A", L: []api.Expr{x}}
	}
	return x
}

// alphabet are all tokens that reading knows, one name, one integer, and some that it does not know.
var alphabet = func() []api.Token {
	l := unlined(lexed("A 1 ( ) , ; : := . .. ' => | - = <>"))
	for _, s := range strings.Fields("abort accept aliased and begin body case constant declare delay do else elsif end entry exception exit for function generic if in is loop new null or others out package private procedure protected raise range record renames requeue return reverse select separate subtype task terminate then type until use when while with xor") {
		l = append(l, api.Token{Kind: api.TokKey, Text: s})
	}
	return append(l, api.Token{}, api.Token{Kind: api.TokKey, Text: "a name"}, api.Token{Kind: api.TokSym, Text: "begin"}, api.Token{Kind: 9, Text: ";"})
}()

// disturbed returns a copy of tokens with a few of them changed, dropped, added, swapped, or cut off.
func (m *maker) disturbed(l []api.Token) []api.Token {
	l = slices.Clone(l)
	for range 1 + m.Intn(2) {
		i := m.Intn(len(l) + 1)
		t := pick(m, alphabet...)
		switch m.Intn(6) {
		case 0, 1:
			l = slices.Insert(l, i, t)
		case 2:
			if i < len(l) {
				l[i] = t
			}
		case 3:
			if i < len(l) {
				l = slices.Delete(l, i, i+1)
			}
		case 4:
			if i+1 < len(l) {
				l[i], l[i+1] = l[i+1], l[i]
			}
		case 5:
			l = l[:i]
		}
	}
	return l
}

// lines gives tokens lines that go up.
func (m *maker) lines(l []api.Token) []api.Token {
	l = slices.Clone(l)
	line := 1
	for i := range l {
		line += m.Intn(3)
		l[i].Line = line
	}
	return l
}
