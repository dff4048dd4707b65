package shape_test

import (
	"ceiling/api"
	"ceiling/expr"
	"ceiling/lex"
)

// A parser is a reference of reading, by calls that end with a panic at the first error.
type parser struct {
	l []api.Token
	i int
}

type stop struct {
	at int
	e  api.Errno
}

// parsed reads a form as all functions whose names begin with Front do.
func parsed[T any](l []api.Token, k kind[T]) (x T, n int, e api.Errno) {
	p := &parser{l: l}
	defer func() {
		if s := recover(); s != nil {
			var none T
			x, n, e = none, s.(stop).at, s.(stop).e
		}
	}()
	x = k.parse(p)
	if !k.ref(x) {
		panic(stop{0, api.ErrLong})
	}
	return x, p.i, api.OK
}

func (p *parser) miss() { panic(stop{p.i, api.ErrShape}) }

// next returns the next token, and what it is: its text if it is a symbol or a reserved word, "name" if it is a name.
func (p *parser) next() (api.Token, string) {
	if p.i == len(p.l) {
		return api.Token{}, ""
	}
	t := p.l[p.i]
	switch {
	case t.Kind == api.TokName:
		return t, "name"
	case t.Kind == api.TokSym && lex.Symbol(t.Text), t.Kind == api.TokKey && lex.Key(t.Text):
		return t, t.Text
	}
	return t, ""
}

func (p *parser) see(s string) bool {
	_, what := p.next()
	return what == s
}

func (p *parser) take(s string) bool {
	if p.see(s) {
		p.i++
		return true
	}
	return false
}

func (p *parser) need(s string) {
	if !p.take(s) {
		p.miss()
	}
}

func (p *parser) line() int {
	t, _ := p.next()
	return t.Line
}

func (p *parser) word() string {
	t, _ := p.next()
	p.need("name")
	return t.Text
}

func (p *parser) words() []string {
	l := []string{p.word()}
	for p.take(",") {
		l = append(l, p.word())
	}
	return l
}

// below goes on behind what layer 3 has read.
func (p *parser) below(n int, e api.Errno) {
	switch e {
	case api.ErrExpr:
		panic(stop{p.i + n, api.ErrShape})
	case api.ErrLong:
		panic(stop{0, api.ErrLong})
	}
	p.i += n
}

func (p *parser) expr(level int) api.Expr {
	x, n, e := expr.Front(p.l[p.i:], level)
	p.below(n, e)
	return x
}

func (p *parser) mark() api.Expr {
	line := p.line()
	x := api.Expr{Kind: api.ExName, S: p.word(), Line: line}
	for p.take(".") {
		x = api.Expr{Kind: api.ExSelect, L: []api.Expr{x}, Line: line}
		x.S = p.word()
	}
	return x
}

func (p *parser) indic() api.Indic {
	s := api.Indic{Name: p.mark()}
	if p.take("range") {
		s.Lo = p.expr(2)
		p.need("..")
		s.Hi = p.expr(2)
	} else if p.take("(") {
		s.Value = p.expr(0)
		p.need(")")
	}
	return s
}

func (p *parser) disc() api.Disc {
	x := p.expr(2)
	if p.take("..") {
		return api.Disc{Lo: x, Hi: p.expr(2)}
	}
	if mark(x) && p.take("range") {
		d := api.Disc{Name: x, Lo: p.expr(2)}
		p.need("..")
		d.Hi = p.expr(2)
		return d
	}
	if !mark(x) && x.Kind != api.ExAttr {
		p.miss()
	}
	return api.Disc{Name: x}
}

func (p *parser) params() []api.Param {
	var l []api.Param
	for len(l) == 0 || p.take(";") {
		g := api.Param{Line: p.line(), Mode: api.ModeIn}
		g.Names = p.words()
		p.need(":")
		in := p.take("in")
		if p.take("out") {
			g.Mode = map[bool]api.ModeKind{false: api.ModeOut, true: api.ModeInOut}[in]
		}
		g.Type = p.mark()
		if p.take(":=") {
			g.E = p.expr(0)
		}
		l = append(l, g)
	}
	return l
}

func (p *parser) aspects() []api.Aspect {
	var l []api.Aspect
	for len(l) == 0 || p.take(",") {
		a := api.Aspect{Name: p.word()}
		p.need("=>")
		a.E = p.expr(0)
		l = append(l, a)
	}
	return l
}

func (p *parser) comps() []api.Comp {
	var l []api.Comp
	if p.take("null") {
		p.need(";")
		return l
	}
	for len(l) == 0 || p.see("name") {
		c := api.Comp{Line: p.line()}
		c.Names = p.words()
		p.need(":")
		c.Sub = p.indic()
		if p.take(":=") {
			c.E = p.expr(0)
		}
		p.need(";")
		l = append(l, c)
	}
	return l
}

func (p *parser) definition() (t api.TypeDef) {
	_, first := p.next()
	if first == "record" {
		return p.record()
	}
	p.i++
	switch first {
	case "(":
		t = api.TypeDef{Kind: api.TdEnum, Names: p.words()}
		p.need(")")
	case "range":
		t = api.TypeDef{Kind: api.TdRange, Lo: p.expr(2)}
		p.need("..")
		t.Hi = p.expr(2)
	case "new":
		t = api.TypeDef{Kind: api.TdDerived, Sub: p.indic()}
	case "array":
		p.need("(")
		t = api.TypeDef{Kind: api.TdArray, Disc: p.disc()}
		p.need(")")
		p.need("of")
		t.Sub = p.indic()
	case "access":
		t = api.TypeDef{Kind: api.TdAccess, Sub: p.indic()}
	case "private":
		t = api.TypeDef{Kind: api.TdPrivate}
	case "limited":
		p.need("private")
		t = api.TypeDef{Kind: api.TdPrivate, Limited: true}
	case "null":
		p.need("record")
		t = api.TypeDef{Kind: api.TdRecord}
	default:
		p.i--
		p.miss()
	}
	return t
}

func (p *parser) record() api.TypeDef {
	t := api.TypeDef{Kind: api.TdRecord}
	p.need("record")
	if p.see("null") || p.see("name") {
		t.Comps = p.comps()
	}
	if p.take("case") {
		t.Var = p.word()
		p.need("is")
		for len(t.Arms) == 0 || p.see("when") {
			p.need("when")
			l, n, e := expr.FrontChoices(p.l[p.i:])
			p.below(n, e)
			p.need("=>")
			t.Arms = append(t.Arms, api.VarArm{Choices: l, Comps: p.comps()})
		}
		p.need("end")
		p.need("case")
		p.need(";")
	}
	p.need("end")
	p.need("record")
	return t
}
