package shape

import (
	"ceiling/api"
	"ceiling/expr"
	"ceiling/token"
)

// FrontIndic returns the indication with which tokens begin, and how many tokens it has.
func FrontIndic(l []api.Token) (s api.Indic, n int, e api.Errno) {
	r := reading(l)
	return front(r, r.indic, MayIndic)
}

// FrontDisc returns the discrete range with which tokens begin.
func FrontDisc(l []api.Token) (d api.Disc, n int, e api.Errno) {
	r := reading(l)
	return front(r, r.disc, MayDisc)
}

// FrontParams returns the parameters with which tokens begin.
func FrontParams(l []api.Token) (x []api.Param, n int, e api.Errno) {
	r := reading(l)
	return front(r, r.params, MayParams)
}

// FrontAspects returns the aspects with which tokens begin.
func FrontAspects(l []api.Token) (x []api.Aspect, n int, e api.Errno) {
	r := reading(l)
	return front(r, r.aspects, MayAspects)
}

// FrontComps returns the components with which tokens begin.
func FrontComps(l []api.Token) (x []api.Comp, n int, e api.Errno) {
	r := reading(l)
	return front(r, r.comps, MayComps)
}

// FrontType returns the type definition with which tokens begin.
func FrontType(l []api.Token) (t api.TypeDef, n int, e api.Errno) {
	r := reading(l)
	return front(r, r.definition, MayType)
}

// front reads a form; may reports whether what was read is valid.
func front[T any](r *reader, form func() T, may func(T) bool) (x T, n int, e api.Errno) {
	x = form()
	if r.e == api.OK && !may(x) {
		r.fail(api.ErrLong, 0)
	}
	if r.e != api.OK {
		var none T
		return none, r.end, r.e
	}
	return x, r.At, api.OK
}

// A reader reads tokens from left to right. At an error it has no more tokens, so that all forms come to their ends.
type reader struct {
	token.Reader
	e   api.Errno
	end int // the index that belongs to e
}

func reading(l []api.Token) *reader {
	r := &reader{}
	r.L, r.Miss = l, r.miss
	return r
}

// fail ends reading with an error; only the first one counts.
func (r *reader) fail(e api.Errno, at int) {
	if r.e == api.OK {
		r.e, r.end = e, at
	}
	r.Cursor = token.Cursor{}
}

// miss ends reading at the next token.
func (r *reader) miss() { r.fail(api.ErrShape, r.At) }

// pass goes on behind n tokens that layer 3 has read, or ends reading with its error.
func (r *reader) pass(n int, e api.Errno) {
	switch e {
	case api.OK:
		r.At += n
	case api.ErrExpr:
		r.fail(api.ErrShape, r.At+n)
	default:
		r.fail(e, 0)
	}
}

func (r *reader) expression() api.Expr { return r.expr(0) }

func (r *reader) simple() api.Expr { return r.expr(2) }

func (r *reader) expr(level int) api.Expr {
	x, n, e := expr.Front(r.L[r.At:], level)
	r.pass(n, e)
	return x
}

func (r *reader) choices() []api.Choice {
	l, n, e := expr.FrontChoices(r.L[r.At:])
	r.pass(n, e)
	return l
}
