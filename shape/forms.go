package shape

import (
	"ceiling/api"
	"ceiling/token"
)

// indic: mark [ range bounds ] or mark [ ( expression ) ]
func (r *reader) indic() api.Indic {
	s := api.Indic{Name: r.Mark()}
	switch {
	case r.Takes("range"):
		s.Lo, s.Hi = r.bounds()
	case r.Takes("("):
		s.Value = r.expression()
		r.Must(")")
	}
	return s
}

// bounds: simple .. simple
func (r *reader) bounds() (lo, hi api.Expr) {
	lo = r.simple()
	r.Must("..")
	return lo, r.simple()
}

// disc: simple .. simple; or mark range bounds; or a mark; or an ExAttr
func (r *reader) disc() api.Disc {
	x := r.simple()
	if r.Takes("..") {
		return api.Disc{Lo: x, Hi: r.simple()}
	}
	d := api.Disc{Name: x}
	switch {
	case Mark(x):
		if r.Takes("range") {
			d.Lo, d.Hi = r.bounds()
		}
	case x.Kind != api.ExAttr:
		r.Miss()
	}
	return d
}

// params: param { ; param }
func (r *reader) params() []api.Param { return token.Several(r.param, r.Separator(";")) }

// param: names : [ in ] [ out ] mark [ := expression ]
func (r *reader) param() api.Param {
	p := api.Param{Line: r.Ahead(0).Line, Names: r.Names()}
	r.Must(":")
	p.Mode = r.mode()
	p.Type = r.Mark()
	p.E = r.initial()
	return p
}

// mode: [ in ] [ out ]
func (r *reader) mode() api.ModeKind {
	in := r.Takes("in")
	switch {
	case !r.Takes("out"):
		return api.ModeIn
	case in:
		return api.ModeInOut
	}
	return api.ModeOut
}

// initial: [ := expression ]
func (r *reader) initial() api.Expr {
	if r.Takes(":=") {
		return r.expression()
	}
	return api.Expr{}
}

// aspects: aspect { , aspect }
func (r *reader) aspects() []api.Aspect { return token.Several(r.aspect, r.Separator(",")) }

// aspect: TokName => expression
func (r *reader) aspect() api.Aspect {
	a := api.Aspect{Name: r.Name()}
	r.Must("=>")
	a.E = r.expression()
	return a
}

// comps: null ; or comp { comp }
func (r *reader) comps() []api.Comp {
	if r.Takes("null") {
		r.Must(";")
		return nil
	}
	return token.Several(r.comp, r.Named)
}

// comp: names : indication [ := expression ] ;
func (r *reader) comp() api.Comp {
	c := api.Comp{Line: r.Ahead(0).Line, Names: r.Names()}
	r.Must(":")
	c.Sub = r.indic()
	c.E = r.initial()
	r.Must(";")
	return c
}

// definition reads a type definition, whose first token tells how it goes on.
func (r *reader) definition() api.TypeDef {
	sub := func(t *api.TypeDef) { t.Sub = r.indic() }
	forms := [...]struct {
		first string
		kind  api.TypeDefKind
		rest  func(t *api.TypeDef)
	}{
		{"(", api.TdEnum, r.literals},
		{"range", api.TdRange, func(t *api.TypeDef) { t.Lo, t.Hi = r.bounds() }},
		{"new", api.TdDerived, sub},
		{"array", api.TdArray, r.array},
		{"access", api.TdAccess, sub},
		{"private", api.TdPrivate, func(*api.TypeDef) {}},
		{"limited", api.TdPrivate, r.limited},
		{"null", api.TdRecord, func(*api.TypeDef) { r.Must("record") }},
		{"record", api.TdRecord, r.record},
	}
	for _, f := range forms {
		if r.Takes(f.first) {
			t := api.TypeDef{Kind: f.kind}
			f.rest(&t)
			return t
		}
	}
	r.Miss()
	return api.TypeDef{}
}

// literals: names )
func (r *reader) literals(t *api.TypeDef) {
	t.Names = r.Names()
	r.Must(")")
}

// array: ( discrete range ) of indication
func (r *reader) array(t *api.TypeDef) {
	r.Must("(")
	t.Disc = r.disc()
	r.Must(")", "of")
	t.Sub = r.indic()
}

// limited: private
func (r *reader) limited(t *api.TypeDef) {
	r.Must("private")
	t.Limited = true
}

// record: [ components ] [ case TokName is arm { arm } end case ; ] end record
func (r *reader) record(t *api.TypeDef) {
	if r.Sees(0, "null") || r.Named() {
		t.Comps = r.comps()
	}
	if r.Takes("case") {
		t.Var = r.Name()
		r.Must("is")
		t.Arms = token.Several(r.arm, func() bool { return r.Sees(0, "when") })
		r.Must("end", "case", ";")
	}
	r.Must("end", "record")
}

// arm: when choices => components
func (r *reader) arm() api.VarArm {
	r.Must("when")
	a := api.VarArm{Choices: r.choices()}
	r.Must("=>")
	a.Comps = r.comps()
	return a
}
