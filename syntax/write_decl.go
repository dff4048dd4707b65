package syntax

import (
	"strings"

	"ceiling/api"
	"ceiling/expr"
	"ceiling/shape"
)

// words returns the words in front of the name of a declaration.
func words(d *api.Decl) string {
	switch d.Kind {
	case api.DcType, api.DcFormalType:
		return "type"
	case api.DcSubtype:
		return "subtype"
	case api.DcProc, api.DcProcBody:
		return "procedure"
	case api.DcFunc, api.DcFuncBody:
		return "function"
	case api.DcPackage:
		return "package"
	case api.DcPackageBody:
		return "package body"
	case api.DcTask:
		return "task"
	case api.DcTaskBody:
		return "task body"
	case api.DcProtected:
		return "protected"
	case api.DcProtectedBody:
		return "protected body"
	case api.DcEntry, api.DcEntryBody:
		return "entry"
	case api.DcFormalProc:
		return "with procedure"
	case api.DcFormalFunc:
		return "with function"
	case api.DcStub:
		return [...]string{api.OfPackage: "package body", api.OfProc: "procedure", api.OfTask: "task body", api.OfProtected: "protected body"}[d.Of]
	}
	return [...]string{api.OfPackage: "package", api.OfProc: "procedure", api.OfFunc: "function"}[d.Of] // of a DcRename or DcInstance
}

// formalWords returns the words that a DcFormalType of a sort has behind is.
func formalWords(of api.OfKind) string {
	switch of {
	case api.OfPrivate:
		return "private"
	case api.OfDiscrete:
		return "( <> )"
	}
	return "range <>"
}

// spell puts the words of a text.
func (w *writer) spell(words string) { w.Fixed(strings.Fields(words)...) }

func (w *writer) decls(l []api.Decl, depth int) {
	for i := range l {
		w.decl(&l[i], depth)
	}
}

func (w *writer) decl(d *api.Decl, depth int) {
	switch d.Kind {
	case api.DcUse:
		w.Fixed("use")
		w.marks(d.Uses, ",")
	case api.DcGeneric:
		w.line(depth, "generic")
		w.decls(d.Formals, depth+1)
		w.decls(d.Decls, depth)
		return
	case api.DcObject, api.DcNumber, api.DcException, api.DcFormalObject:
		w.objects(d)
	case api.DcRename:
		w.rename(d)
	case api.DcProcBody, api.DcPackage, api.DcPackageBody, api.DcTaskBody, api.DcProtected, api.DcProtectedBody, api.DcEntryBody:
		w.heading(d)
		w.scope(d, depth)
	case api.DcTask:
		w.heading(d)
		if len(d.Decls) > 0 {
			w.scope(d, depth)
		}
	default:
		w.heading(d)
		w.rest(d, depth)
	}
	w.line(depth, ";")
}

// objects puts what begins with names and a colon.
func (w *writer) objects(d *api.Decl) {
	w.Names(d.Names)
	w.Fixed(":")
	w.word(d.Aliased, "aliased")
	w.word(d.Constant || d.Kind == api.DcNumber, "constant")
	w.word(d.Kind == api.DcException || d.Of == api.OfException, "exception")
	if indicated(d.Sub) {
		put(w, shape.IndicTokens, d.Sub)
	}
	w.behind(":=", d.E)
	w.aspects(d.Aspects)
}

func (w *writer) rename(d *api.Decl) {
	if d.Of == api.OfObject || d.Of == api.OfException {
		w.objects(d)
	} else {
		w.heading(d)
	}
	w.behind("renames", d.Name)
}

// heading puts what is in front of is, where there is one.
func (w *writer) heading(d *api.Decl) {
	w.spell(words(d))
	w.Name(d.Names[0])
	w.params(d.Disc)
	w.params(d.Params)
	w.behind("return", d.Result)
	w.behind("when", d.Cond)
	w.aspects(d.Aspects)
}

// rest puts what a declaration of one line, or a type, has behind its heading.
func (w *writer) rest(d *api.Decl, depth int) {
	switch d.Kind {
	case api.DcType:
		w.definition(d.Type, depth)
	case api.DcSubtype:
		w.Fixed("is")
		put(w, shape.IndicTokens, d.Sub)
	case api.DcFuncBody:
		w.Fixed("is", "(")
		w.expr(d.E)
		w.Fixed(")")
	case api.DcInstance:
		w.Fixed("is", "new")
		w.expr(d.Name)
		enclosed(w, expr.ArgTokens, d.Actuals)
	case api.DcStub:
		w.Fixed("is", "separate")
	case api.DcFormalType:
		w.Fixed("is")
		w.spell(formalWords(d.Of))
	case api.DcFormalProc, api.DcFormalFunc:
		w.word(d.Box, "is", "<>")
	}
}

// definition puts a type definition, but for the end of its last line.
func (w *writer) definition(t api.TypeDef, depth int) {
	w.Fixed("is")
	l, _ := shape.TypeLines(t, depth)
	for i, x := range l {
		if i > 0 {
			w.End(l[i-1].Depth)
		}
		w.Put(x.L...)
	}
}

// scope puts what a declaration with others, or with statements, has behind its heading, but for the end of its last line.
func (w *writer) scope(d *api.Decl, depth int) {
	w.line(depth, "is")
	w.decls(d.Decls, depth+1)
	if len(d.Private) > 0 || len(d.Comps) > 0 {
		w.line(depth, "private")
		w.decls(d.Private, depth+1)
		w.comps(d.Comps, depth+1)
	}
	if len(d.Stmts) > 0 {
		w.line(depth, "begin")
		w.stmts(d.Stmts, depth+1)
		w.handlers(d.Handlers, depth)
	}
	w.Fixed("end")
	w.Name(d.Names[0])
}

// comps puts components, if there are any.
func (w *writer) comps(l []api.Comp, depth int) {
	if len(l) > 0 {
		lines, _ := shape.CompLines(l, depth)
		w.Lines = append(w.Lines, lines...)
	}
}
