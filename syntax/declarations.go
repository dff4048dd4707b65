package syntax

import (
	"ceiling/api"
	"ceiling/expr"
	"ceiling/shape"
)

// declForms are how declarations begin in blocks, bodies and packages.
func (r *reader) declForms() forms[api.Decl] {
	return forms[api.Decl]{
		aName: r.object, "type": r.typed, "subtype": r.subtype, "use": r.use, "procedure": r.procedure, "function": r.function,
		"package": r.packages, "task": r.task, "protected": r.protected, "generic": r.generic,
	}
}

// decl reads a declaration of one of some forms.
func (r *reader) decl(f forms[api.Decl], d *api.Decl) {
	d.Line = r.Ahead(0).Line
	goOn(r, f, d)
}

// decls returns a step that reads declarations as long as the next token begins one.
func (r *reader) decls(f forms[api.Decl], l *[]api.Decl) func() {
	return func() {
		if begins(r, f) {
			r.decl(f, added(l))
			r.then(r.decls(f, l))
		}
	}
}

// name reads the only name of a declaration.
func (r *reader) name(d *api.Decl) { d.Names = []string{r.Name()} }

// params: [ ( parameters ) ]
func (r *reader) params() []api.Param {
	if !r.Takes("(") {
		return nil
	}
	l := front(r, shape.FrontParams)
	r.Must(")")
	return l
}

// aspects: [ with aspects ]
func (r *reader) aspects() []api.Aspect {
	if !r.Takes("with") {
		return nil
	}
	return front(r, shape.FrontAspects)
}

// initial: [ := expression ]
func (r *reader) initial() api.Expr {
	if !r.Takes(":=") {
		return api.Expr{}
	}
	return r.expression()
}

// close returns a step that reads: end name ;
func (r *reader) close(name string) func() {
	return func() {
		r.Must("end")
		r.same(name)
		r.Must(";")
	}
}

// body plans: D begin S H end name ;
func (r *reader) body(d *api.Decl, kind api.DeclKind) {
	d.Kind = kind
	r.then(r.decls(r.declarations, &d.Decls), r.finish("begin"), func() { r.handled(&d.Stmts, &d.Handlers) }, r.close(d.Names[0]))
}

// stub reads a stub of a sort if separate is next.
func (r *reader) stub(d *api.Decl, of api.OfKind) bool {
	if !r.Takes("separate") {
		return false
	}
	d.Kind, d.Of = api.DcStub, of
	r.Must(";")
	return true
}

// instance: mark [ ( arguments ) ] ;
func (r *reader) instance(d *api.Decl, of api.OfKind) {
	d.Kind, d.Of = api.DcInstance, of
	d.Name = r.Mark()
	if r.Takes("(") {
		d.Actuals = front(r, expr.FrontArgs)
		r.Must(")")
	}
	r.Must(";")
}

// rename: mark ;
func (r *reader) rename(d *api.Decl, of api.OfKind) {
	d.Kind, d.Of = api.DcRename, of
	d.Name = r.Mark()
	r.Must(";")
}

// object reads a declaration that begins with its names.
func (r *reader) object(d *api.Decl) {
	d.Names = r.Names()
	r.Must(":")
	if r.Takes("exception") {
		r.exception(d)
		return
	}
	d.Aliased = r.Takes("aliased")
	d.Constant = r.Takes("constant")
	if d.Constant && !d.Aliased && r.Takes(":=") {
		d.Kind, d.Constant = api.DcNumber, false
		d.E = r.expression()
		r.Must(";")
		return
	}
	d.Sub = front(r, shape.FrontIndic)
	if len(d.Names) == 1 && !d.Aliased && !d.Constant && alone(d.Sub) && r.Takes("renames") {
		d.Kind, d.Of = api.DcRename, api.OfObject
		d.Name = r.nameForm()
	} else {
		d.Kind = api.DcObject
		d.E = r.initial()
		d.Aspects = r.aspects()
	}
	r.Must(";")
}

// exception: ; or, for one name, renames mark ;
func (r *reader) exception(d *api.Decl) {
	if len(d.Names) == 1 && r.Takes("renames") {
		r.rename(d, api.OfException)
		return
	}
	d.Kind = api.DcException
	r.Must(";")
}

// typed: name [ ( parameters ) ] is type definition ;
func (r *reader) typed(d *api.Decl) {
	d.Kind = api.DcType
	r.name(d)
	d.Disc = r.params()
	r.Must("is")
	d.Type = front(r, shape.FrontType)
	r.Must(";")
}

// subtype: name is indication ;
func (r *reader) subtype(d *api.Decl) {
	d.Kind = api.DcSubtype
	r.name(d)
	r.Must("is")
	d.Sub = front(r, shape.FrontIndic)
	r.Must(";")
}

// use: marks ;
func (r *reader) use(d *api.Decl) {
	d.Kind = api.DcUse
	d.Uses = r.marks(",")
	r.Must(";")
}

// heading: name [ ( parameters ) ]
func (r *reader) heading(d *api.Decl) {
	r.name(d)
	d.Params = r.params()
}

func (r *reader) procedure(d *api.Decl) {
	r.heading(d)
	switch {
	case r.Takes(";"):
		d.Kind = api.DcProc
		return
	case r.Takes("renames"):
		r.rename(d, api.OfProc)
		return
	}
	r.Must("is")
	switch {
	case r.stub(d, api.OfProc):
	case len(d.Params) == 0 && r.Takes("new"):
		r.instance(d, api.OfProc)
	default:
		r.body(d, api.DcProcBody)
	}
}

// result: name [ ( parameters ) ] return mark
func (r *reader) result(d *api.Decl) {
	r.heading(d)
	r.Must("return")
	d.Result = r.Mark()
}

func (r *reader) function(d *api.Decl) {
	r.result(d)
	switch {
	case r.Takes(";"):
		d.Kind = api.DcFunc
	case r.Takes("renames"):
		r.rename(d, api.OfFunc)
	default:
		r.returned(d)
	}
}

// returned: is ( expression ) ;
func (r *reader) returned(d *api.Decl) {
	d.Kind = api.DcFuncBody
	r.Must("is", "(")
	d.E = r.expression()
	r.Must(")", ";")
}

func (r *reader) packages(d *api.Decl) {
	if r.Takes("body") {
		r.packageBody(d)
		return
	}
	r.name(d)
	if r.Takes("renames") {
		r.rename(d, api.OfPackage)
		return
	}
	r.Must("is")
	if r.Takes("new") {
		r.instance(d, api.OfPackage)
		return
	}
	r.specification(d)
}

// specification plans: D [ private D ] end name ;
func (r *reader) specification(d *api.Decl) {
	d.Kind = api.DcPackage
	r.then(r.decls(r.declarations, &d.Decls), func() {
		if r.Takes("private") {
			r.then(r.decls(r.declarations, &d.Private))
		}
	}, r.close(d.Names[0]))
}

// packageBody: name is, and separate ; or D [ begin S H ] end name ;
func (r *reader) packageBody(d *api.Decl) {
	r.name(d)
	r.Must("is")
	if r.stub(d, api.OfPackage) {
		return
	}
	d.Kind = api.DcPackageBody
	r.then(r.decls(r.declarations, &d.Decls), func() {
		if r.Takes("begin") {
			r.handled(&d.Stmts, &d.Handlers)
		}
	}, r.close(d.Names[0]))
}

func (r *reader) task(d *api.Decl) {
	if r.Takes("body") {
		r.name(d)
		r.Must("is")
		if !r.stub(d, api.OfTask) {
			r.body(d, api.DcTaskBody)
		}
		return
	}
	d.Kind = api.DcTask
	r.name(d)
	d.Aspects = r.aspects()
	if r.Takes(";") {
		return
	}
	r.Must("is")
	r.then(r.decls(forms[api.Decl]{"entry": r.entry}, &d.Decls), r.close(d.Names[0]))
}

// entry: name [ ( parameters ) ] ;
func (r *reader) entry(d *api.Decl) { r.profile(d, api.DcEntry) }

// entryBody: name [ ( parameters ) ] when expression is, and a body
func (r *reader) entryBody(d *api.Decl) {
	r.heading(d)
	r.Must("when")
	d.Cond = r.expression()
	r.Must("is")
	r.body(d, api.DcEntryBody)
}

// profile: name [ ( parameters ) ] ;
func (r *reader) profile(d *api.Decl, kind api.DeclKind) {
	d.Kind = kind
	r.heading(d)
	r.Must(";")
}

func (r *reader) protected(d *api.Decl) {
	if r.Takes("body") {
		r.protectedBody(d)
		return
	}
	d.Kind = api.DcProtected
	r.name(d)
	d.Aspects = r.aspects()
	r.Must("is")
	r.then(r.decls(r.operations(), &d.Decls), func() {
		if r.Takes("private") {
			d.Comps = front(r, shape.FrontComps)
		}
	}, r.close(d.Names[0]))
}

// operations are how the declarations in a DcProtected begin.
func (r *reader) operations() forms[api.Decl] {
	return forms[api.Decl]{
		"entry":     r.entry,
		"procedure": func(d *api.Decl) { r.profile(d, api.DcProc) },
		"function": func(d *api.Decl) {
			d.Kind = api.DcFunc
			r.result(d)
			r.Must(";")
		},
	}
}

// protectedBody: name is, and separate ; or bodies and end name ;
func (r *reader) protectedBody(d *api.Decl) {
	r.name(d)
	r.Must("is")
	if r.stub(d, api.OfProtected) {
		return
	}
	d.Kind = api.DcProtectedBody
	r.then(r.decls(r.bodies(), &d.Decls), r.close(d.Names[0]))
}

// bodies are how the declarations in a DcProtectedBody begin.
func (r *reader) bodies() forms[api.Decl] {
	return forms[api.Decl]{
		"entry": r.entryBody,
		"procedure": func(d *api.Decl) {
			r.heading(d)
			r.Must("is")
			r.body(d, api.DcProcBody)
		},
		"function": func(d *api.Decl) {
			r.result(d)
			r.returned(d)
		},
	}
}

// generic plans the formals, and the package or procedure.
func (r *reader) generic(d *api.Decl) {
	d.Kind = api.DcGeneric
	f := forms[api.Decl]{
		"procedure": func(d *api.Decl) { r.profile(d, api.DcProc) },
		"package": func(d *api.Decl) {
			r.name(d)
			r.Must("is")
			r.specification(d)
		},
	}
	r.then(r.decls(r.formals(), &d.Formals), func() { r.decl(f, added(&d.Decls)) })
}

// formals are how formals begin.
func (r *reader) formals() forms[api.Decl] {
	return forms[api.Decl]{aName: r.formalObject, "type": r.formalType, "with": r.formalUnit}
}

// formalObject: names : [ in ] mark [ := expression ] ;
func (r *reader) formalObject(d *api.Decl) {
	d.Kind = api.DcFormalObject
	d.Names = r.Names()
	r.Must(":")
	r.Takes("in")
	d.Sub.Name = r.Mark()
	d.E = r.initial()
	r.Must(";")
}

// formalType: name is, and private ; or ( <> ) ; or range <> ;
func (r *reader) formalType(d *api.Decl) {
	d.Kind = api.DcFormalType
	r.name(d)
	r.Must("is")
	switch {
	case r.Takes("private"):
		d.Of = api.OfPrivate
	case r.Takes("("):
		d.Of = api.OfDiscrete
		r.Must("<>", ")")
	default:
		d.Of = api.OfInteger
		r.Must("range", "<>")
	}
	r.Must(";")
}

// formalUnit: procedure name [ ( parameters ) ] or function name [ ( parameters ) ] return mark, [ is <> ] ;
func (r *reader) formalUnit(d *api.Decl) {
	if r.Takes("procedure") {
		d.Kind = api.DcFormalProc
		r.heading(d)
	} else {
		d.Kind = api.DcFormalFunc
		r.Must("function")
		r.result(d)
	}
	if d.Box = r.Takes("is"); d.Box {
		r.Must("<>")
	}
	r.Must(";")
}
