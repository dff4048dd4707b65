package syntax

import (
	"ceiling/api"
	"ceiling/shape"
)

// A set has some of the fields of statements, arms and declarations: those that are there, which means that they are neither absent nor zero nor empty.
type set uint32

const (
	hasLabel set = 1 << iota
	hasVar
	hasName
	hasE
	hasCond
	hasNames
	hasDisc
	hasReverse
	hasAbort
	hasBody
	hasAspects
	hasParams
	hasDecls
	hasStmts
	hasElse
	hasArms
	hasHandlers
	hasChoices
	hasFirst
	hasAliased
	hasConstant
	hasBox
	hasSub
	hasResult
	hasType
	hasActuals
	hasUses
	hasFormals
	hasPrivate
	hasComps
)

// A rule tells which fields must be there, and which others may be; of has the bits of the sorts that a declaration may have, and is 0 if it has none.
type rule struct {
	must, may set
	of        uint16
}

func (r rule) allows(s set) bool { return s&r.must == r.must && s&^(r.must|r.may) == 0 }

// sorted reports whether a declaration may be of a sort.
func (r rule) sorted(of api.OfKind) bool {
	if r.of == 0 {
		return of == api.NoOf
	}
	return r.of>>of&1 == 1
}

// stmtRule returns the rule of a kind of statements, if it is one.
func stmtRule(k api.StmtKind) (r rule, ok bool) {
	rules := [...]rule{
		api.StNull:    {},
		api.StAssign:  {must: hasName | hasE},
		api.StCall:    {must: hasName},
		api.StIf:      {must: hasArms, may: hasElse},
		api.StCase:    {must: hasE | hasArms},
		api.StLoop:    {must: hasStmts, may: hasLabel},
		api.StWhile:   {must: hasCond | hasStmts, may: hasLabel | hasAspects},
		api.StFor:     {must: hasVar | hasDisc | hasStmts, may: hasLabel | hasReverse},
		api.StExit:    {may: hasLabel | hasCond},
		api.StReturn:  {},
		api.StBlock:   {must: hasStmts, may: hasLabel | hasDecls | hasHandlers},
		api.StRaise:   {may: hasName},
		api.StDelay:   {must: hasE},
		api.StUntil:   {must: hasE},
		api.StAbort:   {must: hasNames},
		api.StRequeue: {must: hasName, may: hasAbort},
		api.StAccept:  {must: hasVar, may: hasParams | hasBody | hasStmts | hasHandlers},
		api.StSelect:  {must: hasArms, may: hasElse},
		api.StTimed:   {must: hasArms},
		api.StCond:    {must: hasArms | hasElse},
	}
	if k == api.NoStmt || int(k) >= len(rules) {
		return rule{}, false
	}
	return rules[k], true
}

// declRule returns the rule of a kind of declarations, if it is one.
func declRule(k api.DeclKind) (r rule, ok bool) {
	rules := [...]rule{
		api.DcObject:    {must: hasNames | hasSub, may: hasAliased | hasConstant | hasE | hasAspects},
		api.DcNumber:    {must: hasNames | hasE},
		api.DcException: {must: hasNames},
		api.DcRename: {must: hasNames | hasName, may: hasSub | hasParams | hasResult,
			of: 1<<api.OfObject | 1<<api.OfException | 1<<api.OfPackage | 1<<api.OfProc | 1<<api.OfFunc},
		api.DcType:          {must: hasNames | hasType, may: hasDisc},
		api.DcSubtype:       {must: hasNames | hasSub},
		api.DcUse:           {must: hasUses},
		api.DcProc:          {must: hasNames, may: hasParams},
		api.DcProcBody:      {must: hasNames | hasStmts, may: hasParams | hasDecls | hasHandlers},
		api.DcFunc:          {must: hasNames | hasResult, may: hasParams},
		api.DcFuncBody:      {must: hasNames | hasResult | hasE, may: hasParams},
		api.DcPackage:       {must: hasNames, may: hasDecls | hasPrivate},
		api.DcPackageBody:   {must: hasNames, may: hasDecls | hasStmts | hasHandlers},
		api.DcTask:          {must: hasNames, may: hasAspects | hasDecls},
		api.DcTaskBody:      {must: hasNames | hasStmts, may: hasDecls | hasHandlers},
		api.DcProtected:     {must: hasNames, may: hasAspects | hasDecls | hasComps},
		api.DcProtectedBody: {must: hasNames, may: hasDecls},
		api.DcEntry:         {must: hasNames, may: hasParams},
		api.DcEntryBody:     {must: hasNames | hasCond | hasStmts, may: hasParams | hasDecls | hasHandlers},
		api.DcGeneric:       {must: hasDecls, may: hasFormals},
		api.DcInstance:      {must: hasNames | hasName, may: hasActuals, of: 1<<api.OfPackage | 1<<api.OfProc},
		api.DcStub: {must: hasNames, may: hasParams,
			of: 1<<api.OfPackage | 1<<api.OfProc | 1<<api.OfTask | 1<<api.OfProtected},
		api.DcFormalType:   {must: hasNames, of: 1<<api.OfPrivate | 1<<api.OfDiscrete | 1<<api.OfInteger},
		api.DcFormalObject: {must: hasNames | hasSub, may: hasE},
		api.DcFormalProc:   {must: hasNames, may: hasParams | hasBox},
		api.DcFormalFunc:   {must: hasNames | hasResult, may: hasParams | hasBox},
	}
	if k == api.NoDecl || int(k) >= len(rules) {
		return rule{}, false
	}
	return rules[k], true
}

// renameRule returns the rule of a sort of DcRename, for the fields besides its names and its Name.
func renameRule(of api.OfKind) rule {
	switch of {
	case api.OfObject:
		return rule{must: hasSub}
	case api.OfProc:
		return rule{may: hasParams}
	case api.OfFunc:
		return rule{must: hasResult, may: hasParams}
	}
	return rule{}
}

// when returns a field if it is there.
func when(there bool, field set) set {
	if there {
		return field
	}
	return 0
}

func stmtFields(s *api.Stmt) set {
	return when(s.Label != "", hasLabel) | when(s.Var != "", hasVar) |
		when(!absent(s.Name), hasName) | when(!absent(s.E), hasE) | when(!absent(s.Cond), hasCond) |
		when(len(s.Names) > 0, hasNames) | when(ranged(s.Disc), hasDisc) |
		when(s.Reverse, hasReverse) | when(s.Abort, hasAbort) | when(s.Body, hasBody) |
		when(len(s.Aspects) > 0, hasAspects) | when(len(s.Params) > 0, hasParams) |
		when(len(s.Decls) > 0, hasDecls) | when(len(s.Stmts) > 0, hasStmts) | when(len(s.Else) > 0, hasElse) |
		when(len(s.Arms) > 0, hasArms) | when(len(s.Handlers) > 0, hasHandlers)
}

func armFields(a *api.Arm) set {
	return when(!absent(a.Cond), hasCond) | when(len(a.Choices) > 0, hasChoices) |
		when(len(a.First) > 0, hasFirst) | when(len(a.Stmts) > 0, hasStmts)
}

func declFields(d *api.Decl) set {
	return when(len(d.Names) > 0, hasNames) | when(d.Aliased, hasAliased) | when(d.Constant, hasConstant) | when(d.Box, hasBox) |
		when(indicated(d.Sub), hasSub) | when(!absent(d.E), hasE) | when(!absent(d.Name), hasName) |
		when(!absent(d.Result), hasResult) | when(!absent(d.Cond), hasCond) |
		when(len(d.Disc) > 0, hasDisc) | when(defined(d.Type), hasType) | when(len(d.Params) > 0, hasParams) |
		when(len(d.Aspects) > 0, hasAspects) | when(len(d.Actuals) > 0, hasActuals) | when(len(d.Uses) > 0, hasUses) |
		when(len(d.Formals) > 0, hasFormals) | when(len(d.Decls) > 0, hasDecls) | when(len(d.Private) > 0, hasPrivate) |
		when(len(d.Comps) > 0, hasComps) | when(len(d.Stmts) > 0, hasStmts) | when(len(d.Handlers) > 0, hasHandlers)
}

func ranged(d api.Disc) bool { return !shape.SameDisc(d, api.Disc{}) }

func indicated(s api.Indic) bool { return !shape.SameIndic(s, api.Indic{}) }

func defined(t api.TypeDef) bool { return !shape.SameType(t, api.TypeDef{}) }
