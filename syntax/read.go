package syntax

import (
	"slices"

	"ceiling/api"
	"ceiling/expr"
	"ceiling/lex"
	"ceiling/token"
)

// A plan has the steps of reading that are still to be taken. Forms do not call those that stand in them, but plan them, since forms can be nested deeper than calls can be.
type plan struct {
	todo  []func() // the next one last
	fresh []func() // those that the present step has planned, in order
}

// then plans steps behind those that the present step has planned, and in front of all others.
func (p *plan) then(steps ...func()) { p.fresh = append(p.fresh, steps...) }

// follow takes all steps.
func (p *plan) follow() {
	for {
		slices.Reverse(p.fresh)
		p.todo = append(p.todo, p.fresh...)
		p.fresh = p.fresh[:0]
		last := len(p.todo) - 1
		if last < 0 {
			return
		}
		step := p.todo[last]
		p.todo = p.todo[:last]
		step()
	}
}

// A reader reads tokens from left to right, in steps. A step first reads and then plans: what it reads stands in front of what it plans.
type reader struct {
	token.Reader
	plan
	statements   forms[api.Stmt]
	labelled     forms[api.Stmt]
	declarations forms[api.Decl]
}

func reading(l []api.Token) *reader {
	r := &reader{}
	r.L = l
	r.Miss = func() { r.end(api.ErrSyntax, r.At) }
	r.statements, r.labelled = r.stmtForms(), r.loopForms()
	r.declarations = r.declForms()
	return r
}

// ended is how reading ends ahead of time: with an error and its index.
type ended struct {
	at int
	e  api.Errno
}

func (r *reader) end(e api.Errno, at int) { panic(ended{at, e}) }

// aName stands for all names, among the reserved words that forms begin with.
const aName = "a name"

// forms tell, by the word with which something begins, how it goes on: behind a reserved word, or at a name.
type forms[T any] map[string]func(*T)

// of returns the form that begins with a token, and nil if there is none.
func (f forms[T]) of(t api.Token) func(*T) {
	switch {
	case t.Kind == api.TokName:
		return f[aName]
	case t.Kind == api.TokKey && lex.Key(t.Text):
		return f[t.Text]
	}
	return nil
}

// begins reports whether the next token begins one of some forms.
func begins[T any](r *reader, f forms[T]) bool { return f.of(r.Ahead(0)) != nil }

// goOn reads what must begin with one of some forms.
func goOn[T any](r *reader, f forms[T], x *T) {
	form := f.of(r.Ahead(0))
	if form == nil {
		r.Miss()
	}
	if !r.Named() {
		r.At++
	}
	form(x)
}

// added appends a zero element to a list and returns its address, which is good until the next one is appended.
func added[T any](l *[]T) *T {
	var x T
	*l = append(*l, x)
	return &(*l)[len(*l)-1]
}

// front reads a form of a lower layer.
func front[T any](r *reader, form func([]api.Token) (T, int, api.Errno)) T {
	x, n, e := form(r.L[r.At:])
	switch e {
	case api.OK:
		r.At += n
	case api.ErrExpr, api.ErrShape:
		r.end(api.ErrSyntax, r.At+n)
	default:
		r.end(e, 0)
	}
	return x
}

func (r *reader) expression() api.Expr { return r.expr(0) }

func (r *reader) nameForm() api.Expr { return r.expr(6) }

func (r *reader) expr(level int) api.Expr {
	return front(r, func(l []api.Token) (api.Expr, int, api.Errno) { return expr.Front(l, level) })
}

// marks: mark { separator mark }
func (r *reader) marks(separator string) []api.Expr {
	return token.Several(r.Mark, r.Separator(separator))
}

// same reads a TokName that must be this one.
func (r *reader) same(name string) {
	if r.Ahead(0).Text != name {
		r.Miss()
	}
	r.Name()
}

// seesOne reports whether one of these symbols and reserved words is next.
func (r *reader) seesOne(l ...string) bool {
	return slices.ContainsFunc(l, func(s string) bool { return r.Sees(0, s) })
}

// unit: { with names ; or use marks ; } [ separate ( mark ) ] declaration
func (r *reader) unit() (u api.Unit) {
	for r.seesOne("with", "use") {
		if r.Takes("with") {
			u.With = append(u.With, r.Names()...)
		} else {
			r.Must("use")
			u.Use = append(u.Use, r.marks(",")...)
		}
		r.Must(";")
	}
	f := forms[api.Decl]{"package": r.packages, "procedure": r.procedure, "generic": r.generic}
	if r.Takes("separate") {
		r.Must("(")
		u.Parent = r.Mark()
		r.Must(")")
		f = forms[api.Decl]{"package": r.packages, "procedure": r.procedure, "task": r.task, "protected": r.protected}
	}
	r.decl(f, &u.D)
	r.follow()
	if !belongs(u) || r.At < len(r.L) {
		r.Miss()
	}
	return u
}
