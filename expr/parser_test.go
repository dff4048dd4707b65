package expr_test

import (
	"strings"

	"ceiling/api"
)

// A parser is a reference of reading, by recursion over the forms of the chapter.
type parser struct {
	l []api.Token
	i int
}

type stop int

// parsed calls a form; at an error, at is the index of the token.
func parsed[T any](l []api.Token, form func(*parser) T) (x T, at int, e api.Errno) {
	p := &parser{l: l}
	defer func() {
		if s := recover(); s != nil {
			var none T
			x, at, e = none, int(s.(stop)), api.ErrExpr
		}
	}()
	x = form(p)
	return x, p.i, api.OK
}

func front(l []api.Token, level int) (api.Expr, int, api.Errno) {
	if level < 0 || level > 6 {
		return api.Expr{}, 0, api.ErrArg
	}
	x, n, e := parsed(l, []func(*parser) api.Expr{(*parser).expression, (*parser).relation, (*parser).simple, (*parser).term, (*parser).factor, (*parser).primary, (*parser).name}[level])
	if e == api.OK && !may(x) {
		return api.Expr{}, 0, api.ErrLong
	}
	return x, n, e
}

func frontArgs(l []api.Token) ([]api.Assoc, int, api.Errno) {
	x, n, e := parsed(l, (*parser).arguments)
	if e == api.OK && !mayArgs(x) {
		return nil, 0, api.ErrLong
	}
	return x, n, e
}

func frontChoices(l []api.Token) ([]api.Choice, int, api.Errno) {
	x, n, e := parsed(l, func(p *parser) []api.Choice {
		c := []api.Choice{p.choice()}
		for p.take("|") {
			c = append(c, p.choice())
		}
		return c
	})
	if e == api.OK && !mayChoices(x) {
		return nil, 0, api.ErrLong
	}
	return x, n, e
}

func (p *parser) kind(i int) api.TokenKind {
	if p.i+i >= len(p.l) {
		return api.NoToken
	}
	return p.l[p.i+i].Kind
}

func (p *parser) line() int {
	if p.i >= len(p.l) {
		return 0
	}
	return p.l[p.i].Line
}

// see reports whether these words and symbols are next.
func (p *parser) see(s ...string) bool {
	for i, x := range s {
		kind := api.TokSym
		if x[0] >= 'a' && x[0] <= 'z' {
			kind = api.TokKey
		}
		if p.kind(i) != kind || p.l[p.i+i].Text != x {
			return false
		}
	}
	return true
}

func (p *parser) take(s ...string) bool {
	if !p.see(s...) {
		return false
	}
	p.i += len(s)
	return true
}

func (p *parser) need(s string) {
	if !p.take(s) {
		panic(stop(p.i))
	}
}

// oper reads one of the operators from first to last, the longest one that is next; NoOperator: none is.
func (p *parser) oper(first, last api.Operator) api.Operator {
	for o := last; o >= first; o-- {
		if p.take(strings.Fields(operators[o])...) {
			return o
		}
	}
	return api.NoOperator
}

func lined(line int, x api.Expr) api.Expr {
	x.Line = line
	return x
}

func (p *parser) expression() api.Expr { return p.expressionFrom(p.relation()) }

func (p *parser) expressionFrom(x api.Expr) api.Expr {
	first := api.NoOperator
	for {
		at := p.i
		o := p.oper(api.OperAnd, api.OperElse)
		if o == api.NoOperator || first != api.NoOperator && o != first {
			p.i = at
			return x
		}
		first = o
		x = lined(x.Line, two(o, x, p.relation()))
	}
}

func (p *parser) relation() api.Expr { return p.relationFrom(p.simple()) }

func (p *parser) relationFrom(x api.Expr) api.Expr {
	if o := p.oper(api.OperEq, api.OperGe); o != api.NoOperator {
		return lined(x.Line, two(o, x, p.simple()))
	}
	kind := api.ExNotIn
	if p.see("in") {
		kind = api.ExIn
	}
	if !p.take("in") && !p.take("not", "in") {
		return x
	}
	y := p.simple()
	if named(y) && !p.see("..") {
		return lined(x.Line, of(kind, x, y))
	}
	p.need("..")
	return lined(x.Line, of(kind, x, y, p.simple()))
}

func (p *parser) simple() api.Expr {
	line := p.line()
	sign := p.oper(api.OperPos, api.OperNeg)
	x := p.term()
	if sign != api.NoOperator {
		x = lined(line, one(sign, x))
	}
	for {
		o := p.oper(api.OperAdd, api.OperSub)
		if o == api.NoOperator {
			return x
		}
		x = lined(x.Line, two(o, x, p.term()))
	}
}

func (p *parser) term() api.Expr {
	x := p.factor()
	for {
		o := p.oper(api.OperMul, api.OperRem)
		if o == api.NoOperator {
			return x
		}
		x = lined(x.Line, two(o, x, p.factor()))
	}
}

func (p *parser) factor() api.Expr {
	line := p.line()
	o := p.oper(api.OperAbs, api.OperNot)
	x := p.primary()
	if o != api.NoOperator {
		x = lined(line, one(o, x))
	}
	return x
}

func (p *parser) primary() api.Expr {
	line := p.line()
	switch {
	case p.kind(0) == api.TokInt:
		p.i++
		return lined(line, num(p.l[p.i-1].N))
	case p.take("null"):
		return lined(line, of(api.ExNull))
	case p.kind(0) == api.TokName:
		return p.name()
	}
	return p.parenthesis()
}

func (p *parser) word() string {
	if p.kind(0) != api.TokName {
		panic(stop(p.i))
	}
	p.i++
	return p.l[p.i-1].Text
}

func (p *parser) name() api.Expr {
	line := p.line()
	x := lined(line, name(p.word()))
	for {
		switch {
		case p.take(".", "all"):
			x = of(api.ExDeref, x)
		case p.take("."):
			x = with(api.ExSelect, p.word(), x)
		case p.take("("):
			x = call(x, p.arguments()...)
			p.need(")")
		case p.take("'"):
			if p.kind(0) == api.TokName {
				x = with(api.ExAttr, p.word(), x)
			} else {
				x = of(api.ExQual, x, p.parenthesis())
			}
		default:
			return x
		}
		x.Line = line
	}
}

func (p *parser) arguments() []api.Assoc {
	var l []api.Assoc
	for {
		var a api.Assoc
		if p.kind(0) == api.TokName && p.kind(1) == api.TokSym && p.l[p.i+1].Text == "=>" {
			a.Choices = []api.Choice{is(lined(p.line(), name(p.word())))}
			p.need("=>")
		}
		a.E = p.expression()
		l = append(l, a)
		if !p.take(",") {
			return l
		}
	}
}

func (p *parser) parenthesis() api.Expr {
	line := p.line()
	p.need("(")
	if p.take("if") {
		x := p.expression()
		p.need("then")
		y := p.expression()
		p.need("else")
		z := p.expression()
		p.need(")")
		return lined(line, of(api.ExIf, x, y, z))
	}
	l := []api.Assoc{p.association()}
	for p.take(",") {
		l = append(l, p.association())
	}
	p.need(")")
	if len(l) == 1 && l[0].Choices == nil {
		return l[0].E
	}
	return lined(line, aggr(l...))
}

func (p *parser) association() api.Assoc {
	if p.take("others") {
		p.need("=>")
		return when(p.expression(), others)
	}
	c := p.choice()
	if c.Kind != api.ChRange && !p.see("|") && !p.see("=>") {
		return value(c.L[0])
	}
	l := []api.Choice{c}
	for p.take("|") {
		l = append(l, p.choice())
	}
	p.need("=>")
	return when(p.expression(), l...)
}

func (p *parser) choice() api.Choice {
	if p.take("others") {
		return others
	}
	x := p.simple()
	if p.take("..") {
		return span(x, p.simple())
	}
	return is(p.expressionFrom(p.relationFrom(x)))
}
