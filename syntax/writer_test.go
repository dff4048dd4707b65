package syntax_test

import (
	"strings"

	"ceiling/api"
	"ceiling/expr"
	"ceiling/shape"
)

// A line is the text of a line that is written, with its depth.
type line struct {
	depth int
	s     string
}

// joined returns lines as one text.
func joined(l []line) string {
	var out []string
	for _, x := range l {
		out = append(out, x.s)
	}
	return strings.Join(out, "\n")
}

// flat returns the tokens of lines, one line after the other.
func flat(l []api.Line) []api.Token {
	var out []api.Token
	for _, x := range l {
		out = append(out, x.L...)
	}
	return out
}

// A writer is a reference of writing what is valid, as texts. Where more returns true, it chooses another form that is read the same.
type writer struct{ more func() bool }

var plain = writer{func() bool { return false }}

// noisy returns a writer that chooses other forms now and then.
func noisy(m *maker) writer { return writer{func() bool { return m.Intn(4) == 0 }} }

// part writes a form of a lower layer.
func part[T any](f func(T) ([]api.Token, api.Errno), x T) string {
	l, e := f(x)
	if e != api.OK {
		panic(e)
	}
	return text(l)
}

func (w writer) expr(e api.Expr) string {
	if s := part(expr.Tokens, e); !w.more() {
		return s
	} else {
		return "( " + s + " )"
	}
}

func mark(e api.Expr) string { return part(expr.Tokens, e) }

// with writes a prefix and an expression if there is one.
func (w writer) with(prefix string, e api.Expr) string {
	if e.Kind == api.NoExpr {
		return ""
	}
	return prefix + w.expr(e)
}

func if1(there bool, s string) string {
	if there {
		return s
	}
	return ""
}

func list(l []api.Expr, separator string) string {
	var out []string
	for _, e := range l {
		out = append(out, mark(e))
	}
	return strings.Join(out, separator)
}

// params writes parameters in parentheses, if there are any; in may stand in front of any type.
func (w writer) params(l []api.Param) string {
	if len(l) == 0 {
		return ""
	}
	s := part(shape.ParamTokens, l)
	if l[0].Mode == api.ModeIn && w.more() {
		s = strings.Replace(s, " : ", " : in ", 1)
	}
	return " ( " + s + " )"
}

func aspected(l []api.Aspect) string {
	if len(l) == 0 {
		return ""
	}
	return " with " + part(shape.AspectTokens, l)
}

func (w writer) unit(u api.Unit) []line {
	var l []line
	for i, s := range u.With {
		if i > 0 && w.more() {
			l[len(l)-1].s = strings.TrimSuffix(l[len(l)-1].s, " ;") + " , " + s + " ;"
		} else {
			l = append(l, line{0, "with " + s + " ;"})
		}
	}
	var uses []line
	for _, e := range u.Use {
		uses = append(uses, line{0, "use " + mark(e) + " ;"})
	}
	if w.more() {
		l = append(uses, l...)
	} else {
		l = append(l, uses...)
	}
	if u.Parent.Kind != api.NoExpr {
		l = append(l, line{0, "separate ( " + mark(u.Parent) + " )"})
	}
	return append(l, w.decl(u.D, 0)...)
}

func (w writer) stmts(l []api.Stmt, d int) []line {
	var out []line
	for _, s := range l {
		out = append(out, w.stmt(s, d)...)
	}
	return out
}

func (w writer) decls(l []api.Decl, d int) []line {
	var out []line
	for _, x := range l {
		out = append(out, w.decl(x, d)...)
	}
	return out
}

func (w writer) handlers(l []api.Handler, d int) []line {
	var out []line
	for i, h := range l {
		if i == 0 {
			out = append(out, line{d, "exception"})
		}
		out = append(out, line{d + 1, "when " + if1(h.Others, "others") + list(h.Names, " | ") + " =>"})
		out = append(out, w.stmts(h.Stmts, d+2)...)
	}
	return out
}

// within puts lines between a first and a last one.
func within(d int, first string, l []line, last string) []line {
	return append(append([]line{{d, first}}, l...), line{d, last})
}

func (w writer) stmt(s api.Stmt, d int) []line {
	label, behind := "", ""
	if s.Label != "" {
		label, behind = s.Label+" : ", " "+s.Label
	}
	one := ""
	switch s.Kind {
	case api.StNull:
		one = "null"
	case api.StAssign:
		one = mark(s.Name) + " := " + w.expr(s.E)
	case api.StCall:
		one = mark(s.Name)
	case api.StLoop:
		return within(d, label+"loop", w.stmts(s.Stmts, d+1), "end loop"+behind+" ;")
	case api.StWhile:
		return within(d, label+"while "+w.expr(s.Cond)+aspected(s.Aspects)+" loop", w.stmts(s.Stmts, d+1), "end loop"+behind+" ;")
	case api.StFor:
		return within(d, label+"for "+s.Var+" in "+if1(s.Reverse, "reverse ")+part(shape.DiscTokens, s.Disc)+" loop", w.stmts(s.Stmts, d+1), "end loop"+behind+" ;")
	case api.StExit:
		one = "exit" + behind + w.with(" when ", s.Cond)
	case api.StReturn:
		one = "return"
	case api.StBlock:
		l := append(append([]line{{d, "begin"}}, w.stmts(s.Stmts, d+1)...), w.handlers(s.Handlers, d)...)
		if len(s.Decls) > 0 || w.more() {
			l = append(append([]line{{d, "declare"}}, w.decls(s.Decls, d+1)...), l...)
		}
		l[0].s = label + l[0].s
		return append(l, line{d, "end" + behind + " ;"})
	case api.StRaise:
		one = "raise" + plain.with(" ", s.Name)
	case api.StDelay:
		one = "delay " + w.expr(s.E)
	case api.StUntil:
		one = "delay until " + w.expr(s.E)
	case api.StAbort:
		one = "abort " + list(s.Names, " , ")
	case api.StRequeue:
		one = "requeue " + mark(s.Name) + if1(s.Abort, " with abort")
	case api.StAccept:
		if one = "accept " + s.Var + w.params(s.Params); s.Body {
			return within(d, one+" do", append(w.stmts(s.Stmts, d+1), w.handlers(s.Handlers, d)...), "end "+s.Var+" ;")
		}
	default:
		return w.armed(s, d)
	}
	return []line{{d, one + " ;"}}
}

func (w writer) armed(s api.Stmt, d int) []line {
	var l []line
	for i, a := range s.Arms {
		switch s.Kind {
		case api.StIf:
			l = append(l, line{d, if1(i > 0, "els") + "if " + w.expr(a.Cond) + " then"})
			l = append(l, w.stmts(a.Stmts, d+1)...)
		case api.StCase:
			l = append(l, line{d + 1, "when " + part(expr.ChoiceTokens, a.Choices) + " =>"})
			l = append(l, w.stmts(a.Stmts, d+2)...)
		default:
			if i > 0 {
				l = append(l, line{d, "or"})
			}
			l = append(l, w.alternative(a, d+1)...)
		}
	}
	if len(s.Else) > 0 {
		l = append(append(l, line{d, "else"}), w.stmts(s.Else, d+1)...)
	}
	switch s.Kind {
	case api.StIf:
		return append(l, line{d, "end if ;"})
	case api.StCase:
		return within(d, "case "+w.expr(s.E)+" is", l, "end case ;")
	}
	return within(d, "select", l, "end select ;")
}

func (w writer) alternative(a api.Arm, d int) []line {
	var l []line
	if a.Cond.Kind != api.NoExpr {
		l = append(l, line{d, "when " + w.expr(a.Cond) + " =>"})
		d++
	}
	if a.Kind == api.ArmTerminate {
		l = append(l, line{d, "terminate ;"})
	}
	return append(append(l, w.stmts(a.First, d)...), w.stmts(a.Stmts, d)...)
}

func (w writer) decl(x api.Decl, d int) []line {
	n := strings.Join(x.Names, " , ")
	p, result := w.params(x.Params), plain.with(" return ", x.Result)
	one := ""
	switch x.Kind {
	case api.DcObject:
		one = n + " : " + if1(x.Aliased, "aliased ") + if1(x.Constant, "constant ") + part(shape.IndicTokens, x.Sub) + w.with(" := ", x.E) + aspected(x.Aspects)
	case api.DcNumber:
		one = n + " : constant := " + w.expr(x.E)
	case api.DcException:
		one = n + " : exception"
	case api.DcRename:
		one = map[api.OfKind]string{api.OfObject: n + " : " + plain.with("", x.Sub.Name), api.OfException: n + " : exception", api.OfPackage: "package " + n, api.OfProc: "procedure " + n + p, api.OfFunc: "function " + n + p + result}[x.Of] + " renames " + mark(x.Name)
	case api.DcType:
		return w.definition(x, d)
	case api.DcSubtype:
		one = "subtype " + n + " is " + part(shape.IndicTokens, x.Sub)
	case api.DcUse:
		one = "use " + list(x.Uses, " , ")
	case api.DcProc:
		one = "procedure " + n + p
	case api.DcFunc:
		one = "function " + n + p + result
	case api.DcFuncBody:
		one = "function " + n + p + result + " is ( " + w.expr(x.E) + " )"
	case api.DcEntry:
		one = "entry " + n + p
	case api.DcInstance:
		one = map[api.OfKind]string{api.OfPackage: "package ", api.OfProc: "procedure "}[x.Of] + n + " is new " + mark(x.Name)
		if len(x.Actuals) > 0 {
			one += " ( " + part(expr.ArgTokens, x.Actuals) + " )"
		}
	case api.DcStub:
		one = map[api.OfKind]string{api.OfPackage: "package body ", api.OfProc: "procedure ", api.OfTask: "task body ", api.OfProtected: "protected body "}[x.Of] + n + p + " is separate"
	case api.DcFormalType:
		one = "type " + n + " is " + map[api.OfKind]string{api.OfPrivate: "private", api.OfDiscrete: "( <> )", api.OfInteger: "range <>"}[x.Of]
	case api.DcFormalObject:
		one = n + " : " + if1(w.more(), "in ") + mark(x.Sub.Name) + w.with(" := ", x.E)
	case api.DcFormalProc:
		one = "with procedure " + n + p + if1(x.Box, " is <>")
	case api.DcFormalFunc:
		one = "with function " + n + p + result + if1(x.Box, " is <>")
	default:
		return w.scope(x, d)
	}
	return []line{{d, one + " ;"}}
}

func (w writer) definition(x api.Decl, d int) []line {
	lines, e := shape.TypeLines(x.Type, d)
	if e != api.OK {
		panic(e)
	}
	var l []line
	for _, y := range lines {
		l = append(l, line{y.Depth, text(y.L)})
	}
	l[0].s = "type " + x.Names[0] + w.params(x.Disc) + " is " + l[0].s
	l[len(l)-1].s += " ;"
	return l
}

func (w writer) scope(x api.Decl, d int) []line {
	if x.Kind == api.DcGeneric {
		return append(append([]line{{d, "generic"}}, w.decls(x.Formals, d+1)...), w.decl(x.Decls[0], d)...)
	}
	n := x.Names[0]
	first := map[api.DeclKind]string{
		api.DcPackage: "package " + n, api.DcPackageBody: "package body " + n, api.DcProcBody: "procedure " + n + w.params(x.Params), api.DcTask: "task " + n + aspected(x.Aspects), api.DcTaskBody: "task body " + n,
		api.DcProtected: "protected " + n + aspected(x.Aspects), api.DcProtectedBody: "protected body " + n, api.DcEntryBody: "entry " + n + w.params(x.Params) + w.with(" when ", x.Cond),
	}[x.Kind]
	if x.Kind == api.DcTask && len(x.Decls) == 0 && !w.more() {
		return []line{{d, first + " ;"}}
	}
	l := w.decls(x.Decls, d+1)
	if len(x.Private) > 0 || x.Kind == api.DcPackage && w.more() {
		l = append(append(l, line{d, "private"}), w.decls(x.Private, d+1)...)
	}
	if len(x.Comps) > 0 || x.Kind == api.DcProtected && w.more() {
		l = append(l, line{d, "private"})
		lines, _ := shape.CompLines(x.Comps, d+1)
		for _, y := range lines {
			l = append(l, line{y.Depth, text(y.L)})
		}
	}
	if len(x.Stmts) > 0 {
		l = append(append(l, line{d, "begin"}), append(w.stmts(x.Stmts, d+1), w.handlers(x.Handlers, d)...)...)
	}
	return within(d, first+" is", l, "end "+n+" ;")
}
