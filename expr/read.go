package expr

import (
	"ceiling/api"
	"ceiling/token"
)

// Front returns the expression with which tokens begin, at least of a level, and how many tokens it has.
func Front(l []api.Token, level int) (x api.Expr, n int, e api.Errno) {
	forms := [...]step{expression, relation, simple, term, factor, primary, name}
	if level < 0 || level >= len(forms) {
		return api.Expr{}, 0, api.ErrArg
	}
	r, n, e := read(l, forms[level])
	switch {
	case e != api.OK:
		return api.Expr{}, n, e
	case !May(r.expr):
		return api.Expr{}, 0, api.ErrLong
	}
	return r.expr, n, api.OK
}

// FrontArgs returns the arguments with which tokens begin.
func FrontArgs(l []api.Token) (x []api.Assoc, n int, e api.Errno) {
	r, n, e := read(l, list(argument, nil))
	switch {
	case e != api.OK:
		return nil, n, e
	case !MayArgs(r.assocs):
		return nil, 0, api.ErrLong
	}
	return r.assocs, n, api.OK
}

// FrontChoices returns the choices with which tokens begin.
func FrontChoices(l []api.Token) (x []api.Choice, n int, e api.Errno) {
	r, n, e := read(l, choices(nil))
	switch {
	case e != api.OK:
		return nil, n, e
	case !MayChoices(r.choices):
		return nil, 0, api.ErrLong
	}
	return r.choices, n, api.OK
}

// A reader reads tokens from left to right. Its steps do not call each other but plan each other, since forms can be nested deeper than calls can.
type reader struct {
	token.Reader
	dyadic  map[string]api.Operator
	monadic map[string]api.Operator
	todo    []step // the next one last
	// What the last form of each sort was:
	expr    api.Expr
	choice  api.Choice
	choices []api.Choice
	assoc   api.Assoc
	assocs  []api.Assoc
}

// A step reads a form, or the rest of one, together with the steps that it plans.
type step func(r *reader)

// missing is the index of a token that is not the one that must come.
type missing int

// read reads a form; n is the number of its tokens, or the index of the token at which reading ends.
func read(l []api.Token, form step) (r *reader, n int, e api.Errno) {
	defer func() {
		if at, ok := recover().(missing); ok {
			n, e = int(at), api.ErrExpr
		}
	}()
	r = &reader{dyadic: dyadics(), monadic: monadics()}
	r.L, r.Miss = l, r.miss
	r.plan(form)
	for len(r.todo) > 0 {
		last := len(r.todo) - 1
		next := r.todo[last]
		r.todo = r.todo[:last]
		next(r)
	}
	return r, r.At, api.OK
}

// plan puts steps in front of those that are planned.
func (r *reader) plan(steps ...step) {
	for i := len(steps) - 1; i >= 0; i-- {
		r.todo = append(r.todo, steps[i])
	}
}

// miss ends reading at the next token.
func (r *reader) miss() { panic(missing(r.At)) }

// found returns the operator of a map that is next, as far as it is one token; NoOperator: there is none.
func (r *reader) found(operators map[string]api.Operator) api.Operator {
	s := r.Ahead(0).Text
	if o, ok := operators[s]; ok && r.Sees(0, s) {
		return o
	}
	return api.NoOperator
}

// operator returns the operator with two operands that is next, and how many tokens it has; NoOperator: there is none.
func (r *reader) operator() (o api.Operator, n int) {
	o = r.found(r.dyadic)
	switch {
	case o == api.OperAnd && r.Sees(1, "then"):
		return api.OperThen, 2
	case o == api.OperOr && r.Sees(1, "else"):
		return api.OperElse, 2
	}
	return o, 1
}

// of returns an expression with parts, which begins in the line of the first one.
func of(kind api.ExprKind, l ...api.Expr) api.Expr {
	return api.Expr{Kind: kind, L: l, Line: l[0].Line}
}
