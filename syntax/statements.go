package syntax

import (
	"ceiling/api"
	"ceiling/expr"
	"ceiling/shape"
)

// stmtForms are how statements begin.
func (r *reader) stmtForms() forms[api.Stmt] {
	return forms[api.Stmt]{
		aName: r.named, "null": r.null, "if": r.branch, "case": r.cases, "exit": r.exit, "return": r.leave,
		"loop": r.loop, "while": r.while, "for": r.forLoop, "declare": r.declare, "begin": r.block,
		"raise": r.raise, "delay": r.delay, "abort": r.abort, "requeue": r.requeue, "accept": r.accept, "select": r.selection,
	}
}

// loopForms are how statements go on that begin with a label.
func (r *reader) loopForms() forms[api.Stmt] {
	return forms[api.Stmt]{"loop": r.loop, "while": r.while, "for": r.forLoop, "declare": r.declare, "begin": r.block}
}

// stmts returns a step that reads statements: one, and a further one as long as the next token begins one.
func (r *reader) stmts(l *[]api.Stmt) func() {
	return func() {
		r.stmt(added(l))
		r.then(r.perhaps(l))
	}
}

// perhaps returns a step that reads statements, or none if the next token begins none.
func (r *reader) perhaps(l *[]api.Stmt) func() {
	return func() {
		if begins(r, r.statements) {
			r.then(r.stmts(l))
		}
	}
}

// handled plans statements, and the handlers behind them.
func (r *reader) handled(l *[]api.Stmt, h *[]api.Handler) {
	r.then(r.stmts(l), func() {
		if r.Takes("exception") {
			r.handlers(h)
		}
	})
}

// handlers: handler { handler }; a handler: when others or marks, =>, S
func (r *reader) handlers(l *[]api.Handler) {
	h := added(l)
	h.Line = r.Ahead(0).Line
	r.Must("when")
	if h.Others = r.Takes("others"); !h.Others {
		h.Names = r.marks("|")
	}
	r.Must("=>")
	r.then(r.stmts(&h.Stmts), func() {
		if r.Sees(0, "when") {
			r.handlers(l)
		}
	})
}

// finish returns a step that reads these symbols and reserved words.
func (r *reader) finish(l ...string) func() {
	return func() { r.Must(l...) }
}

// stmt reads a statement.
func (r *reader) stmt(s *api.Stmt) {
	s.Line = r.Ahead(0).Line
	if !r.Named() || !r.Sees(1, ":") {
		goOn(r, r.statements, s)
		return
	}
	s.Label = r.Name()
	r.Must(":")
	goOn(r, r.labelled, s)
}

// relabel reads the label behind the end of a statement that has one, and ;
func (r *reader) relabel(s *api.Stmt) {
	if s.Label != "" {
		r.same(s.Label)
	}
	r.Must(";")
}

// named: name form ; or name form := expression ;
func (r *reader) named(s *api.Stmt) {
	s.Name = r.nameForm()
	if callable(s.Name) && r.Takes(";") {
		s.Kind = api.StCall
		return
	}
	s.Kind = api.StAssign
	r.Must(":=")
	s.E = r.expression()
	r.Must(";")
}

func (r *reader) null(s *api.Stmt) {
	s.Kind = api.StNull
	r.Must(";")
}

// branch reads an arm of an if behind if or elsif, and what follows it.
func (r *reader) branch(s *api.Stmt) {
	s.Kind = api.StIf
	a := added(&s.Arms)
	a.Kind = api.ArmPlain
	a.Cond = r.expression()
	r.Must("then")
	r.then(r.stmts(&a.Stmts), func() {
		if r.Takes("elsif") {
			r.branch(s)
			return
		}
		r.otherwise(s, "if")
	})
}

// otherwise: [ else S ] end, the word of the statement, ;
func (r *reader) otherwise(s *api.Stmt, word string) {
	if r.Takes("else") {
		r.then(r.stmts(&s.Else))
	}
	r.then(r.finish("end", word, ";"))
}

// cases: expression is, and the arms
func (r *reader) cases(s *api.Stmt) {
	s.Kind = api.StCase
	s.E = r.expression()
	r.Must("is")
	r.choice(s)
}

// choice reads an arm of a case, and what follows it.
func (r *reader) choice(s *api.Stmt) {
	r.Must("when")
	a := added(&s.Arms)
	a.Kind = api.ArmPlain
	a.Choices = front(r, expr.FrontChoices)
	r.Must("=>")
	r.then(r.stmts(&a.Stmts), func() {
		if r.Sees(0, "when") {
			r.choice(s)
			return
		}
		r.Must("end", "case", ";")
	})
}

func (r *reader) loop(s *api.Stmt) {
	s.Kind = api.StLoop
	r.repeat(s)
}

// while: expression [ with aspects ] loop ..
func (r *reader) while(s *api.Stmt) {
	s.Kind = api.StWhile
	s.Cond = r.expression()
	s.Aspects = r.aspects()
	r.Must("loop")
	r.repeat(s)
}

// forLoop: name in [ reverse ] discrete range loop ..
func (r *reader) forLoop(s *api.Stmt) {
	s.Kind = api.StFor
	s.Var = r.Name()
	r.Must("in")
	s.Reverse = r.Takes("reverse")
	s.Disc = front(r, shape.FrontDisc)
	r.Must("loop")
	r.repeat(s)
}

// repeat plans: S end loop [ label ] ;
func (r *reader) repeat(s *api.Stmt) {
	r.then(r.stmts(&s.Stmts), func() {
		r.Must("end", "loop")
		r.relabel(s)
	})
}

// exit: [ label ] [ when expression ] ;
func (r *reader) exit(s *api.Stmt) {
	s.Kind = api.StExit
	if r.Named() {
		s.Label = r.Name()
	}
	if r.Takes("when") {
		s.Cond = r.expression()
	}
	r.Must(";")
}

func (r *reader) leave(s *api.Stmt) {
	s.Kind = api.StReturn
	r.Must(";")
}

// declare: D begin ..
func (r *reader) declare(s *api.Stmt) {
	r.then(r.decls(r.declarations, &s.Decls), r.finish("begin"), func() { r.block(s) })
}

// block plans: S H end [ label ] ;
func (r *reader) block(s *api.Stmt) {
	s.Kind = api.StBlock
	r.handled(&s.Stmts, &s.Handlers)
	r.then(func() {
		r.Must("end")
		r.relabel(s)
	})
}

// raise: [ mark ] ;
func (r *reader) raise(s *api.Stmt) {
	s.Kind = api.StRaise
	if r.Named() {
		s.Name = r.Mark()
	}
	r.Must(";")
}

// delay: [ until ] expression ;
func (r *reader) delay(s *api.Stmt) {
	s.Kind = api.StDelay
	if r.Takes("until") {
		s.Kind = api.StUntil
	}
	s.E = r.expression()
	r.Must(";")
}

// abort: marks ;
func (r *reader) abort(s *api.Stmt) {
	s.Kind = api.StAbort
	s.Names = r.marks(",")
	r.Must(";")
}

// requeue: mark [ with abort ] ;
func (r *reader) requeue(s *api.Stmt) {
	s.Kind = api.StRequeue
	s.Name = r.Mark()
	if s.Abort = r.Takes("with"); s.Abort {
		r.Must("abort")
	}
	r.Must(";")
}

// accept: name [ ( parameters ) ] ; or name [ ( parameters ) ] do S H end name ;
func (r *reader) accept(s *api.Stmt) {
	s.Kind = api.StAccept
	s.Var = r.Name()
	s.Params = r.params()
	if r.Takes(";") {
		return
	}
	r.Must("do")
	s.Body = true
	r.handled(&s.Stmts, &s.Handlers)
	r.then(r.close(s.Var))
}

// selection reads what stands behind select.
func (r *reader) selection(s *api.Stmt) {
	if !r.seesOne("when", "accept", "delay", "terminate") {
		r.call(s)
		return
	}
	s.Kind = api.StSelect
	r.alternative(s)
}

// alternative reads one of the arms of a StSelect, and what follows it.
func (r *reader) alternative(s *api.Stmt) {
	a := added(&s.Arms)
	if r.Takes("when") {
		a.Cond = r.expression()
		r.Must("=>")
	}
	switch {
	case r.Takes("terminate"):
		a.Kind = api.ArmTerminate
		r.Must(";")
	case r.Sees(0, "accept"):
		a.Kind = api.ArmAccept
		r.arm(a, forms[api.Stmt]{"accept": r.accept})
	default:
		a.Kind = api.ArmDelay
		r.arm(a, forms[api.Stmt]{"delay": r.delay})
	}
	r.then(func() {
		if r.Takes("or") {
			r.alternative(s)
			return
		}
		r.otherwise(s, "select")
	})
}

// arm reads the first statement of an arm, and plans the others.
func (r *reader) arm(a *api.Arm, first forms[api.Stmt]) {
	s := added(&a.First)
	s.Line = r.Ahead(0).Line
	goOn(r, first, s)
	r.then(r.perhaps(&a.Stmts))
}

// call reads a StTimed or StCond behind select.
func (r *reader) call(s *api.Stmt) {
	a := added(&s.Arms)
	a.Kind = api.ArmCall
	r.arm(a, forms[api.Stmt]{aName: r.called})
	r.then(func() {
		if r.Takes("or") {
			s.Kind = api.StTimed
			b := added(&s.Arms)
			b.Kind = api.ArmDelay
			r.arm(b, forms[api.Stmt]{"delay": r.delay})
		} else {
			s.Kind = api.StCond
			r.Must("else")
			r.then(r.stmts(&s.Else))
		}
		r.then(r.finish("end", "select", ";"))
	})
}

// called: name form ; where the name form is one of a call
func (r *reader) called(s *api.Stmt) {
	s.Kind = api.StCall
	s.Name = r.nameForm()
	if !callable(s.Name) {
		r.Miss()
	}
	r.Must(";")
}
