package syntax

import (
	"slices"

	"ceiling/api"
	"ceiling/expr"
	"ceiling/lex"
	"ceiling/shape"
)

// A level is a node and how deep it is nested.
type level struct {
	node
	depth int
}

// valid reports whether a statement or declaration is valid, and all in it.
func valid(root node) bool {
	left := api.MaxTree
	_, all := over(level{root, 1}, tour[level]{
		fits: func(l level) bool {
			left--
			return left >= 0 && l.depth <= api.MaxDepth && shaped(l.node)
		},
		parts: func(l level) []level {
			var out []level
			for _, n := range parts(l.node) {
				out = append(out, level{n, l.depth + 1})
			}
			return out
		},
	})
	return all
}

// shaped reports whether a node has the fields of its kind, whatever is in the nodes in it.
func shaped(n node) bool {
	if n.s != nil {
		return shapedStmt(n.s)
	}
	return shapedDecl(n.d)
}

func shapedStmt(s *api.Stmt) bool {
	r, ok := stmtRule(s.Kind)
	return ok && r.allows(stmtFields(s)) &&
		maybeName(s.Label) && maybeName(s.Var) && maybe(s.Name) && maybe(s.E) && maybe(s.Cond) &&
		len(s.Names) <= api.MaxFew && allMarks(s.Names) && (!ranged(s.Disc) || shape.MayDisc(s.Disc)) &&
		shape.MayAspects(s.Aspects) && shape.MayParams(s.Params) && all(s.Decls, local) && handling(s.Handlers) &&
		fitting(s)
}

// fitting reports whether a statement has what the rule of its kind does not tell.
func fitting(s *api.Stmt) bool {
	switch s.Kind {
	case api.StAssign:
		return expr.Named(s.Name)
	case api.StCall:
		return callable(s.Name)
	case api.StIf:
		return branching(s.Arms, hasCond)
	case api.StCase:
		return branching(s.Arms, hasChoices)
	case api.StRaise:
		return absent(s.Name) || shape.Mark(s.Name)
	case api.StRequeue:
		return shape.Mark(s.Name)
	case api.StAccept:
		return s.Body == (len(s.Stmts) > 0) && (s.Body || len(s.Handlers) == 0)
	case api.StSelect:
		return selecting(s)
	case api.StTimed:
		return len(s.Arms) == 2 && calling(&s.Arms[0]) && s.Arms[1].Kind == api.ArmDelay && alternative(&s.Arms[1]) && absent(s.Arms[1].Cond)
	case api.StCond:
		return len(s.Arms) == 1 && calling(&s.Arms[0])
	}
	return true
}

// branching reports whether a list is one of arms of an if or a case, which have one field besides their statements.
func branching(l []api.Arm, field set) bool {
	if len(l) > api.MaxArms {
		return false
	}
	for i := range l {
		a := &l[i]
		if a.Kind != api.ArmPlain || armFields(a) != field|hasStmts || !maybe(a.Cond) || field == hasChoices && !expr.MayChoices(a.Choices) {
			return false
		}
	}
	return true
}

// selecting reports whether the arms of a StSelect, and those together with its Else, are ones that it may have.
func selecting(s *api.Stmt) bool {
	if len(s.Arms) > api.MaxArms {
		return false
	}
	var n [api.ArmTerminate + 1]int
	for i := range s.Arms {
		if !alternative(&s.Arms[i]) {
			return false
		}
		n[s.Arms[i].Kind]++
	}
	ways := 0
	for _, there := range [...]bool{n[api.ArmTerminate] > 0, n[api.ArmDelay] > 0, len(s.Else) > 0} {
		if there {
			ways++
		}
	}
	return n[api.ArmAccept] > 0 && n[api.ArmTerminate] <= 1 && ways <= 1
}

// alternative reports whether an arm is one of a StSelect.
func alternative(a *api.Arm) bool {
	r := rule{must: hasFirst, may: hasCond | hasStmts}
	switch a.Kind {
	case api.ArmAccept:
		return r.allows(armFields(a)) && maybe(a.Cond) && first(a, api.StAccept)
	case api.ArmDelay:
		return r.allows(armFields(a)) && maybe(a.Cond) && first(a, api.StDelay, api.StUntil)
	case api.ArmTerminate:
		return rule{may: hasCond}.allows(armFields(a)) && maybe(a.Cond)
	}
	return false
}

// calling reports whether an arm is an ArmCall.
func calling(a *api.Arm) bool {
	return a.Kind == api.ArmCall && rule{must: hasFirst, may: hasStmts}.allows(armFields(a)) && first(a, api.StCall)
}

// first reports whether First is one statement of one of these kinds.
func first(a *api.Arm, kinds ...api.StmtKind) bool {
	return len(a.First) == 1 && slices.Contains(kinds, a.First[0].Kind)
}

// handling reports whether a list is one of handlers.
func handling(l []api.Handler) bool {
	if len(l) > api.MaxArms {
		return false
	}
	for i, h := range l {
		if h.Others != (len(h.Names) == 0) || h.Others && i < len(l)-1 || len(h.Names) > api.MaxArms || !allMarks(h.Names) || len(h.Stmts) == 0 {
			return false
		}
	}
	return true
}

func shapedDecl(d *api.Decl) bool {
	r, ok := declRule(d.Kind)
	return ok && r.allows(declFields(d)) && r.sorted(d.Of) && naming(d) &&
		(!indicated(d.Sub) || shape.MayIndic(d.Sub)) && maybe(d.E) && maybe(d.Name) && maybe(d.Cond) &&
		(absent(d.Result) || shape.Mark(d.Result)) && (!defined(d.Type) || shape.MayType(d.Type)) &&
		shape.MayParams(d.Disc) && shape.MayParams(d.Params) && shape.MayAspects(d.Aspects) &&
		(len(d.Actuals) == 0 || expr.MayArgs(d.Actuals)) && len(d.Uses) <= api.MaxFew && allMarks(d.Uses) &&
		shape.MayComps(d.Comps) && all(d.Decls, inside(d.Kind)) && all(d.Private, local) && all(d.Formals, formal) &&
		handling(d.Handlers) && agreeing(d)
}

// naming reports whether a declaration has as many names as one of its kind may have.
func naming(d *api.Decl) bool {
	most := 1
	switch d.Kind {
	case api.DcObject, api.DcNumber, api.DcException, api.DcFormalObject:
		most = api.MaxFew
	}
	return len(d.Names) <= most && allNames(d.Names)
}

// agreeing reports whether a declaration has what the rule of its kind does not tell.
func agreeing(d *api.Decl) bool {
	switch d.Kind {
	case api.DcRename:
		return renaming(d)
	case api.DcType:
		return len(d.Disc) == 0 || discriminated(d)
	case api.DcPackageBody:
		return len(d.Stmts) > 0 || len(d.Handlers) == 0
	case api.DcTask:
		return len(d.Decls) <= api.MaxFew
	case api.DcGeneric:
		return len(d.Formals) <= api.MaxFew && len(d.Decls) == 1
	case api.DcInstance:
		return shape.Mark(d.Name)
	case api.DcStub:
		return d.Of == api.OfProc || len(d.Params) == 0
	case api.DcFormalObject:
		return alone(d.Sub)
	}
	return true
}

// renaming reports whether a DcRename has the fields of its sort.
func renaming(d *api.Decl) bool {
	if !renameRule(d.Of).allows(declFields(d) &^ (hasNames | hasName)) {
		return false
	}
	if d.Of == api.OfObject {
		return alone(d.Sub) && expr.Named(d.Name)
	}
	return shape.Mark(d.Name)
}

// discriminated reports whether a type may have its discriminant.
func discriminated(d *api.Decl) bool {
	switch d.Type.Kind {
	case api.TdRecord, api.TdPrivate, api.TdDerived:
		return len(d.Disc) == 1 && len(d.Disc[0].Names) == 1 && d.Disc[0].Mode == api.ModeIn
	}
	return false
}

// inside returns which kinds of declarations stand in the Decls of a declaration of a kind.
func inside(k api.DeclKind) func(api.DeclKind) bool {
	switch k {
	case api.DcTask:
		return among(api.DcEntry)
	case api.DcProtected:
		return among(api.DcProc, api.DcFunc, api.DcEntry)
	case api.DcProtectedBody:
		return among(api.DcProcBody, api.DcFuncBody, api.DcEntryBody)
	case api.DcGeneric:
		return among(api.DcPackage, api.DcProc)
	}
	return local
}

func among(l ...api.DeclKind) func(api.DeclKind) bool {
	return func(k api.DeclKind) bool { return slices.Contains(l, k) }
}

// local reports whether declarations of a kind stand in blocks, bodies and packages.
func local(k api.DeclKind) bool {
	switch k {
	case api.DcProtected, api.DcProtectedBody, api.DcGeneric, api.DcInstance, api.DcStub:
		return true
	}
	return api.DcObject <= k && k <= api.DcTaskBody
}

func formal(k api.DeclKind) bool { return api.DcFormalType <= k && k <= api.DcFormalFunc }

// all reports whether all declarations are of kinds that may be there.
func all(l []api.Decl, may func(api.DeclKind) bool) bool {
	for i := range l {
		if !may(l[i].Kind) {
			return false
		}
	}
	return true
}

// belongs reports whether the declaration of a unit is of a kind that a library unit, or a subunit, may have.
func belongs(u api.Unit) bool {
	if absent(u.Parent) {
		return among(api.DcPackage, api.DcPackageBody, api.DcProcBody, api.DcGeneric, api.DcInstance)(u.D.Kind)
	}
	return among(api.DcProcBody, api.DcPackageBody, api.DcTaskBody, api.DcProtectedBody)(u.D.Kind)
}

func absent(e api.Expr) bool { return expr.Same(e, api.Expr{}) }

// maybe reports whether an expression is valid or absent.
func maybe(e api.Expr) bool { return absent(e) || expr.May(e) }

// maybeName reports whether a string is a name or empty.
func maybeName(s string) bool { return s == "" || lex.Name(s) }

// callable reports whether an expression has the form of what a call calls.
func callable(e api.Expr) bool {
	return e.Kind == api.ExName || e.Kind == api.ExSelect || e.Kind == api.ExCall
}

// alone reports whether an indication is a mark alone.
func alone(s api.Indic) bool { return shape.SameIndic(s, api.Indic{Name: s.Name}) }

func allNames(l []string) bool {
	return !slices.ContainsFunc(l, func(s string) bool { return !lex.Name(s) })
}

func allMarks(l []api.Expr) bool {
	return !slices.ContainsFunc(l, func(e api.Expr) bool { return !shape.Mark(e) })
}
