package syntax

import (
	"ceiling/api"
	"ceiling/expr"
	"ceiling/shape"
	"ceiling/token"
)

// A writer has the lines of what is valid, and the tokens of the line that is not ended yet. The depth of a form is that of its first line.
type writer struct{ token.Page }

// put puts the tokens of a form of a lower layer.
func put[T any](w *writer, tokens func(T) ([]api.Token, api.Errno), x T) {
	l, _ := tokens(x)
	w.Put(l...)
}

func (w *writer) expr(e api.Expr) { put(w, expr.Tokens, e) }

// line ends a line behind symbols and reserved words.
func (w *writer) line(depth int, l ...string) {
	w.Fixed(l...)
	w.End(depth)
}

func (w *writer) marks(l []api.Expr, separator string) { token.Listed(&w.List, l, separator, w.expr) }

// enclosed puts a list of a lower layer in parentheses, if it has elements.
func enclosed[T any](w *writer, tokens func([]T) ([]api.Token, api.Errno), l []T) {
	if len(l) > 0 {
		w.Fixed("(")
		put(w, tokens, l)
		w.Fixed(")")
	}
}

func (w *writer) params(l []api.Param) { enclosed(w, shape.ParamTokens, l) }

// behind puts a word and an expression, if there is one.
func (w *writer) behind(word string, e api.Expr) {
	if !absent(e) {
		w.Fixed(word)
		w.expr(e)
	}
}

// aspects puts with and aspects, if there are any.
func (w *writer) aspects(l []api.Aspect) {
	if len(l) > 0 {
		w.Fixed("with")
		put(w, shape.AspectTokens, l)
	}
}

// word puts symbols and reserved words if they are to be there.
func (w *writer) word(there bool, l ...string) {
	if there {
		w.Fixed(l...)
	}
}

func (w *writer) unit(u api.Unit) {
	for _, s := range u.With {
		w.Fixed("with")
		w.Name(s)
		w.line(0, ";")
	}
	for _, m := range u.Use {
		w.Fixed("use")
		w.expr(m)
		w.line(0, ";")
	}
	if !absent(u.Parent) {
		w.Fixed("separate", "(")
		w.expr(u.Parent)
		w.line(0, ")")
	}
	w.decl(&u.D, 0)
}

func (w *writer) stmts(l []api.Stmt, depth int) {
	for i := range l {
		w.stmt(&l[i], depth)
	}
}

// stmt puts a statement; most kinds have one line, which is ended here.
func (w *writer) stmt(s *api.Stmt, depth int) {
	switch s.Kind {
	case api.StNull:
		w.Fixed("null")
	case api.StAssign, api.StCall:
		w.expr(s.Name)
		w.behind(":=", s.E)
	case api.StExit:
		w.Fixed("exit")
		w.label(s)
		w.behind("when", s.Cond)
	case api.StReturn:
		w.Fixed("return")
	case api.StRaise:
		w.Fixed("raise")
		if !absent(s.Name) {
			w.expr(s.Name)
		}
	case api.StDelay:
		w.behind("delay", s.E)
	case api.StUntil:
		w.Fixed("delay")
		w.behind("until", s.E)
	case api.StAbort:
		w.Fixed("abort")
		w.marks(s.Names, ",")
	case api.StRequeue:
		w.behind("requeue", s.Name)
		w.word(s.Abort, "with", "abort")
	case api.StAccept:
		w.accept(s, depth)
	default:
		w.nested(s, depth)
	}
	w.line(depth, ";")
}

// nested puts a statement with others in it, but for the end of its last line.
func (w *writer) nested(s *api.Stmt, depth int) {
	switch s.Kind {
	case api.StIf:
		w.branches(s, depth)
	case api.StCase:
		w.cases(s, depth)
	case api.StBlock:
		w.block(s, depth)
	case api.StSelect, api.StTimed, api.StCond:
		w.selection(s, depth)
	default:
		w.loop(s, depth)
	}
}

// label puts a label if there is one.
func (w *writer) label(s *api.Stmt) {
	if s.Label != "" {
		w.Name(s.Label)
	}
}

// labelled puts what a statement begins with that has a label.
func (w *writer) labelled(s *api.Stmt) {
	w.label(s)
	w.word(s.Label != "", ":")
}

func (w *writer) branches(s *api.Stmt, depth int) {
	word := "if"
	for i := range s.Arms {
		w.behind(word, s.Arms[i].Cond)
		w.line(depth, "then")
		w.stmts(s.Arms[i].Stmts, depth+1)
		word = "elsif"
	}
	w.otherwise(s, depth)
	w.Fixed("end", "if")
}

// otherwise puts the lines of an else, if there is one.
func (w *writer) otherwise(s *api.Stmt, depth int) {
	if len(s.Else) > 0 {
		w.line(depth, "else")
		w.stmts(s.Else, depth+1)
	}
}

func (w *writer) cases(s *api.Stmt, depth int) {
	w.behind("case", s.E)
	w.line(depth, "is")
	for i := range s.Arms {
		w.Fixed("when")
		put(w, expr.ChoiceTokens, s.Arms[i].Choices)
		w.line(depth+1, "=>")
		w.stmts(s.Arms[i].Stmts, depth+2)
	}
	w.Fixed("end", "case")
}

func (w *writer) loop(s *api.Stmt, depth int) {
	w.labelled(s)
	switch s.Kind {
	case api.StWhile:
		w.behind("while", s.Cond)
		w.aspects(s.Aspects)
	case api.StFor:
		w.Fixed("for")
		w.Name(s.Var)
		w.Fixed("in")
		w.word(s.Reverse, "reverse")
		put(w, shape.DiscTokens, s.Disc)
	}
	w.line(depth, "loop")
	w.stmts(s.Stmts, depth+1)
	w.Fixed("end", "loop")
	w.label(s)
}

func (w *writer) block(s *api.Stmt, depth int) {
	w.labelled(s)
	if len(s.Decls) > 0 {
		w.line(depth, "declare")
		w.decls(s.Decls, depth+1)
	}
	w.line(depth, "begin")
	w.stmts(s.Stmts, depth+1)
	w.handlers(s.Handlers, depth)
	w.Fixed("end")
	w.label(s)
}

func (w *writer) handlers(l []api.Handler, depth int) {
	if len(l) > 0 {
		w.line(depth, "exception")
	}
	for i := range l {
		w.Fixed("when")
		w.marks(l[i].Names, "|")
		w.word(l[i].Others, "others")
		w.line(depth+1, "=>")
		w.stmts(l[i].Stmts, depth+2)
	}
}

func (w *writer) accept(s *api.Stmt, depth int) {
	w.Fixed("accept")
	w.Name(s.Var)
	w.params(s.Params)
	if s.Body {
		w.line(depth, "do")
		w.stmts(s.Stmts, depth+1)
		w.handlers(s.Handlers, depth)
		w.Fixed("end")
		w.Name(s.Var)
	}
}

func (w *writer) selection(s *api.Stmt, depth int) {
	w.line(depth, "select")
	for i := range s.Arms {
		if i > 0 {
			w.line(depth, "or")
		}
		w.alternative(&s.Arms[i], depth+1)
	}
	w.otherwise(s, depth)
	w.Fixed("end", "select")
}

func (w *writer) alternative(a *api.Arm, depth int) {
	if !absent(a.Cond) {
		w.behind("when", a.Cond)
		w.line(depth, "=>")
		depth++
	}
	if a.Kind == api.ArmTerminate {
		w.line(depth, "terminate", ";")
	}
	w.stmts(a.First, depth)
	w.stmts(a.Stmts, depth)
}
