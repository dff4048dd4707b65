package shape

import (
	"ceiling/api"
	"ceiling/expr"
	"ceiling/token"
)

// IndicTokens returns the tokens of an indication.
func IndicTokens(s api.Indic) ([]api.Token, api.Errno) {
	var w writer
	return tokens(&w, w.indic, s, MayIndic)
}

// DiscTokens returns the tokens of a discrete range.
func DiscTokens(d api.Disc) ([]api.Token, api.Errno) {
	var w writer
	return tokens(&w, w.disc, d, MayDisc)
}

// ParamTokens returns the tokens of parameters, between their parentheses.
func ParamTokens(l []api.Param) ([]api.Token, api.Errno) {
	var w writer
	return tokens(&w, w.params, l, MayParams)
}

// AspectTokens returns the tokens of aspects.
func AspectTokens(l []api.Aspect) ([]api.Token, api.Errno) {
	var w writer
	return tokens(&w, w.aspects, l, MayAspects)
}

// CompLines returns the lines of components.
func CompLines(l []api.Comp, depth int) ([]api.Line, api.Errno) {
	if !MayComps(l) {
		return nil, api.ErrArg
	}
	var w writer
	w.comps(l, depth)
	return w.Lines, api.OK
}

// TypeLines returns the lines of a type definition; the first one is to stand behind "is".
func TypeLines(t api.TypeDef, depth int) ([]api.Line, api.Errno) {
	if !MayType(t) {
		return nil, api.ErrArg
	}
	var w writer
	w.definition(t, depth)
	return w.Lines, api.OK
}

// A writer has the lines of what is valid, and the tokens of the line that is not ended yet.
type writer struct{ token.Page }

// tokens returns the tokens that a form puts into w for what is valid.
func tokens[T any](w *writer, form func(T), x T, may func(T) bool) ([]api.Token, api.Errno) {
	if !may(x) {
		return nil, api.ErrArg
	}
	form(x)
	return w.L, api.OK
}

func (w *writer) expr(e api.Expr) {
	l, _ := expr.Tokens(e)
	w.Put(l...)
}

func (w *writer) choices(l []api.Choice) {
	t, _ := expr.ChoiceTokens(l)
	w.Put(t...)
}

// bounds puts what is written like a choice of these bounds.
func (w *writer) bounds(lo, hi api.Expr) {
	w.choices([]api.Choice{{Kind: api.ChRange, L: []api.Expr{lo, hi}}})
}

// initial puts an initial or default value, if there is one.
func (w *writer) initial(e api.Expr) {
	if !absent(e) {
		w.Fixed(":=")
		w.expr(e)
	}
}

func (w *writer) indic(s api.Indic) {
	w.expr(s.Name)
	switch {
	case !absent(s.Value):
		w.Fixed("(")
		w.expr(s.Value)
		w.Fixed(")")
	case !absent(s.Lo):
		w.Fixed("range")
		w.bounds(s.Lo, s.Hi)
	}
}

func (w *writer) disc(d api.Disc) {
	switch {
	case absent(d.Lo):
		w.expr(d.Name)
	case absent(d.Name):
		w.bounds(d.Lo, d.Hi)
	default:
		w.indic(api.Indic{Name: d.Name, Lo: d.Lo, Hi: d.Hi})
	}
}

func (w *writer) params(l []api.Param) { token.Listed(&w.List, l, ";", w.param) }

func (w *writer) param(p api.Param) {
	w.Names(p.Names)
	w.Fixed(":")
	switch p.Mode {
	case api.ModeOut:
		w.Fixed("out")
	case api.ModeInOut:
		w.Fixed("in", "out")
	}
	w.expr(p.Type)
	w.initial(p.E)
}

func (w *writer) aspects(l []api.Aspect) { token.Listed(&w.List, l, ",", w.aspect) }

func (w *writer) aspect(a api.Aspect) {
	w.Name(a.Name)
	w.Fixed("=>")
	w.expr(a.E)
}

func (w *writer) comps(l []api.Comp, depth int) {
	if len(l) == 0 {
		w.Fixed("null", ";")
		w.End(depth)
	}
	for _, c := range l {
		w.Names(c.Names)
		w.Fixed(":")
		w.indic(c.Sub)
		w.initial(c.E)
		w.Fixed(";")
		w.End(depth)
	}
}

func (w *writer) definition(t api.TypeDef, depth int) {
	switch t.Kind {
	case api.TdEnum:
		w.Fixed("(")
		w.Names(t.Names)
		w.Fixed(")")
	case api.TdRange:
		w.Fixed("range")
		w.bounds(t.Lo, t.Hi)
	case api.TdDerived:
		w.Fixed("new")
		w.indic(t.Sub)
	case api.TdArray:
		w.Fixed("array", "(")
		w.disc(t.Disc)
		w.Fixed(")", "of")
		w.indic(t.Sub)
	case api.TdRecord:
		w.record(t, depth)
	case api.TdAccess:
		w.Fixed("access")
		w.indic(t.Sub)
	case api.TdPrivate:
		if t.Limited {
			w.Fixed("limited")
		}
		w.Fixed("private")
	}
	w.End(depth)
}

// record puts a record without the end of its last line.
func (w *writer) record(t api.TypeDef, depth int) {
	if len(t.Comps) == 0 && t.Var == "" {
		w.Fixed("null", "record")
		return
	}
	w.Fixed("record")
	w.End(depth)
	if len(t.Comps) > 0 {
		w.comps(t.Comps, depth+1)
	}
	if t.Var != "" {
		w.variants(t, depth+1)
	}
	w.Fixed("end", "record")
}

func (w *writer) variants(t api.TypeDef, depth int) {
	w.Fixed("case")
	w.Name(t.Var)
	w.Fixed("is")
	w.End(depth)
	for _, a := range t.Arms {
		w.Fixed("when")
		w.choices(a.Choices)
		w.Fixed("=>")
		w.End(depth + 1)
		w.comps(a.Comps, depth+2)
	}
	w.Fixed("end", "case", ";")
	w.End(depth)
}
