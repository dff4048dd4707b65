package syntax_test

import (
	"reflect"
	"regexp"
	"runtime/debug"
	"slices"
	"strconv"
	"strings"
	"testing"

	"ceiling/api"
	"ceiling/expr"
	"ceiling/lex"
	"ceiling/shape"
	"ceiling/syntax"
)

// What the chapter says, once more and in the most direct way: by its tables, as texts, and by patterns.

// lexed returns the tokens of a text.
func lexed(s string) []api.Token {
	l, _, e := lex.Tokens(s)
	if e != api.OK {
		panic(s + ": " + e.Error())
	}
	return l
}

// unlined returns tokens without lines.
func unlined(l []api.Token) []api.Token {
	out := slices.Clone(l)
	for i := range out {
		out[i].Line = 0
	}
	return out
}

// text writes any tokens.
func text(l []api.Token) string {
	var out []string
	for _, t := range l {
		s := t.Text
		if t.Kind == api.TokInt {
			s = strconv.FormatInt(t.N, 10)
		}
		out = append(out, s)
	}
	return strings.Join(out, " ")
}

// front reads all of a text by a function of a lower layer.
func front[T any](s string, f func([]api.Token) (T, int, api.Errno)) T {
	l := lexed(s)
	x, n, e := f(l)
	if e != api.OK || n != len(l) {
		panic(s + ": " + e.Error())
	}
	return x
}

// ex returns the expression that a text is.
func ex(s string) api.Expr {
	return front(s, func(l []api.Token) (api.Expr, int, api.Errno) { return expr.Front(l, 0) })
}

func indic(s string) api.Indic { return front(s, shape.FrontIndic) }

// unit returns the unit that a text is, by the layer itself.
func unit(s string) api.Unit {
	u, at, e := syntax.Parse(lexed(s))
	if e != api.OK {
		panic(s + ": " + strconv.Itoa(at) + " " + e.Error())
	}
	return u
}

// decl returns the declaration that a text is.
func decl(s string) api.Decl { return unit("package P is " + s + " end P;").D.Decls[0] }

// stmt returns the statement that a text is.
func stmt(s string) api.Stmt { return unit("package body P is begin " + s + " end P;").D.Stmts[0] }

// copied returns a value in new memory; lists without elements are nil, and with bare, the fields that are not considered are zero.
func copied[T any](x T, bare bool) T {
	var y T
	fill(reflect.ValueOf(&y).Elem(), reflect.ValueOf(x), bare)
	return y
}

func fill(to, from reflect.Value, bare bool) {
	switch from.Kind() {
	case reflect.Struct:
		for i := range from.NumField() {
			if f := from.Type().Field(i).Name; !bare || f != "Line" && f != "Ent" && f != "T" {
				fill(to.Field(i), from.Field(i), bare)
			}
		}
	case reflect.Slice:
		for i := range from.Len() {
			to.Set(reflect.Append(to, reflect.Zero(from.Type().Elem())))
			fill(to.Index(i), from.Index(i), bare)
		}
	default:
		to.Set(from)
	}
}

// same is a reference of Same, for anything.
func same[T any](a, b T) bool { return reflect.DeepEqual(copied(a, true), copied(b, true)) }

// apart fails the test if two lists in a value share memory.
func apart(t *testing.T, x any) {
	t.Helper()
	var spans [][2]uintptr
	var walk func(reflect.Value)
	walk = func(v reflect.Value) {
		switch v.Kind() {
		case reflect.Struct:
			for i := range v.NumField() {
				walk(v.Field(i))
			}
		case reflect.Slice:
			from := v.Pointer()
			to := from + uintptr(v.Cap())*v.Type().Elem().Size()
			for _, s := range spans {
				if from < s[1] && s[0] < to {
					t.Errorf("shared memory: %v", x)
				}
			}
			spans = append(spans, [2]uintptr{from, to})
			for i := range v.Len() {
				walk(v.Index(i))
			}
		}
	}
	walk(reflect.ValueOf(x))
}

// small lets calls be nested far less deep than the trees and tokens of a test, until the test ends.
func small(t *testing.T) {
	was := debug.SetMaxStack(4 << 20)
	t.Cleanup(func() { debug.SetMaxStack(was) })
}

var (
	stmtType = reflect.TypeFor[api.Stmt]()
	declType = reflect.TypeFor[api.Decl]()
)

// size is a reference of Size, for anything.
func size(v reflect.Value) int {
	n := 0
	switch v.Kind() {
	case reflect.Struct:
		if v.Type() == stmtType || v.Type() == declType {
			n = 1
		}
		for i := range v.NumField() {
			n += size(v.Field(i))
		}
	case reflect.Slice:
		for i := range v.Len() {
			n += size(v.Index(i))
		}
	}
	return n
}

// depth is how deep statements and declarations are nested in anything.
func depth(v reflect.Value) int {
	n := 0
	switch v.Kind() {
	case reflect.Struct:
		for i := range v.NumField() {
			n = max(n, depth(v.Field(i)))
		}
		if v.Type() == stmtType || v.Type() == declType {
			n++
		}
	case reflect.Slice:
		for i := range v.Len() {
			n = max(n, depth(v.Index(i)))
		}
	}
	return n
}

// stmtTable has the fields of the kinds of statements, as the chapter's table has them.
var stmtTable = map[api.StmtKind]string{
	api.StNull: "", api.StAssign: "Name:form E", api.StCall: "Name:call", api.StIf: "Arms [Else]", api.StCase: "E Arms",
	api.StLoop: "[Label] Stmts", api.StWhile: "[Label] Cond [Aspects] Stmts", api.StFor: "[Label] Var [Reverse] Disc Stmts",
	api.StExit: "[Label] [Cond]", api.StReturn: "", api.StBlock: "[Label] [Decls:local] Stmts [Handlers]", api.StRaise: "[Name:mark]",
	api.StDelay: "E", api.StUntil: "E", api.StAbort: "Names", api.StRequeue: "Name:mark [Abort]",
	api.StSelect: "Arms [Else]", api.StTimed: "Arms", api.StCond: "Arms Else",
}

// acceptTable has those of StAccept without and with Body.
var acceptTable = map[bool]string{false: "Var [Params]", true: "Var [Params] Body Stmts [Handlers]"}

// declTable has the same of declarations, with each sort that a kind may have.
var declTable = map[api.DeclKind]map[api.OfKind]string{
	api.DcObject:        {api.NoOf: "Names:8 [Aliased] [Constant] Sub [E] [Aspects]"},
	api.DcNumber:        {api.NoOf: "Names:8 E"},
	api.DcException:     {api.NoOf: "Names:8"},
	api.DcRename:        {api.OfObject: "Names Sub:alone Name:form", api.OfException: "Names Name:mark", api.OfPackage: "Names Name:mark", api.OfProc: "Names [Params] Name:mark", api.OfFunc: "Names [Params] Result:mark Name:mark"},
	api.DcType:          {api.NoOf: "Names [Disc] Type"},
	api.DcSubtype:       {api.NoOf: "Names Sub"},
	api.DcUse:           {api.NoOf: "Uses"},
	api.DcProc:          {api.NoOf: "Names [Params]"},
	api.DcProcBody:      {api.NoOf: "Names [Params] [Decls:local] Stmts [Handlers]"},
	api.DcFunc:          {api.NoOf: "Names [Params] Result:mark"},
	api.DcFuncBody:      {api.NoOf: "Names [Params] Result:mark E"},
	api.DcPackage:       {api.NoOf: "Names [Decls:local] [Private:local]"},
	api.DcPackageBody:   {api.NoOf: "Names [Decls:local] [Stmts] [Handlers]"},
	api.DcTask:          {api.NoOf: "Names [Aspects] [Decls:entries]"},
	api.DcTaskBody:      {api.NoOf: "Names [Decls:local] Stmts [Handlers]"},
	api.DcProtected:     {api.NoOf: "Names [Aspects] [Decls:operations] [Comps]"},
	api.DcProtectedBody: {api.NoOf: "Names [Decls:bodies]"},
	api.DcEntry:         {api.NoOf: "Names [Params]"},
	api.DcEntryBody:     {api.NoOf: "Names [Params] Cond [Decls:local] Stmts [Handlers]"},
	api.DcGeneric:       {api.NoOf: "[Formals:formals] Decls:unit"},
	api.DcInstance:      {api.OfPackage: "Names Name:mark [Actuals]", api.OfProc: "Names Name:mark [Actuals]"},
	api.DcStub:          {api.OfProc: "Names [Params]", api.OfPackage: "Names", api.OfTask: "Names", api.OfProtected: "Names"},
	api.DcFormalType:    {api.OfPrivate: "Names", api.OfDiscrete: "Names", api.OfInteger: "Names"},
	api.DcFormalObject:  {api.NoOf: "Names:8 Sub:alone [E]"},
	api.DcFormalProc:    {api.NoOf: "Names [Params] [Box]"},
	api.DcFormalFunc:    {api.NoOf: "Names [Params] Result:mark [Box]"},
}

// kindTable has patterns of the kinds of declarations in lists, in numbers that each end with a space.
var kindTable = map[string]*regexp.Regexp{
	"local":      kinds(0, 1<<20, 1, 2, 3, 4, 5, 6, 7, 8, 9, 10, 11, 12, 13, 14, 15, 16, 17, 20, 21, 22),
	"entries":    kinds(0, 8, api.DcEntry),
	"operations": kinds(0, 1<<20, api.DcProc, api.DcFunc, api.DcEntry),
	"bodies":     kinds(0, 1<<20, api.DcProcBody, api.DcFuncBody, api.DcEntryBody),
	"formals":    kinds(0, 8, api.DcFormalType, api.DcFormalObject, api.DcFormalProc, api.DcFormalFunc),
	"unit":       kinds(1, 1, api.DcPackage, api.DcProc),
}

// kinds returns a pattern of least to most of some kinds; from 9 on, most is no limit.
func kinds(least, most int, l ...api.DeclKind) *regexp.Regexp {
	var out []string
	for _, k := range l {
		out = append(out, strconv.Itoa(int(k)))
	}
	bounds := "{" + strconv.Itoa(least) + "," + strconv.Itoa(most) + "}"
	if most > 8 {
		bounds = "*"
	}
	return regexp.MustCompile("^((" + strings.Join(out, "|") + ") )" + bounds + "$")
}

// may is a reference of May, MayStmt and MayDecl without the limits of all of a tree.
func may(v reflect.Value) bool {
	switch x := v.Interface().(type) {
	case api.Stmt:
		table, ok := stmtTable[x.Kind]
		if x.Kind == api.StAccept {
			table, ok = acceptTable[x.Body], true
		}
		return ok && fits(v, table) && armed(x)
	case api.Decl:
		table, ok := declTable[x.Kind][x.Of]
		return ok && fits(v, table) && (len(x.Handlers) == 0 || len(x.Stmts) > 0) && disc(x)
	}
	panic(v)
}

// whole is the same with the limits.
func whole[T any](x T) bool {
	v := reflect.ValueOf(x)
	return size(v) <= 2048 && depth(v) <= 32 && may(v)
}

// disc reports whether the discriminant of a type is one that it may have.
func disc(d api.Decl) bool {
	if len(d.Disc) == 0 {
		return true
	}
	k := d.Type.Kind
	return len(d.Disc) == 1 && len(d.Disc[0].Names) == 1 && d.Disc[0].Mode == api.ModeIn && (k == api.TdRecord || k == api.TdPrivate || k == api.TdDerived)
}

// fits reports whether a struct has the fields of a table, and no others.
func fits(v reflect.Value, table string) bool {
	rest := map[string]string{}
	for _, s := range strings.Fields(table) {
		name, what, _ := strings.Cut(strings.Trim(s, "[]"), ":")
		rest[name] = what
		if s[0] != '[' && absent(v.FieldByName(name)) {
			return false
		}
	}
	for i := range v.NumField() {
		f := v.Type().Field(i).Name
		if f == "Kind" || f == "Of" || f == "Line" || f == "Ent" || absent(v.Field(i)) {
			continue
		}
		if what, ok := rest[f]; !ok || !value(v.Field(i), f, what) {
			return false
		}
	}
	return true
}

func absent(v reflect.Value) bool {
	x := reflect.New(v.Type()).Elem()
	fill(x, v, true)
	return x.IsZero()
}

// value reports whether a field that is there is what it may be.
func value(v reflect.Value, field, what string) bool {
	switch x := v.Interface().(type) {
	case bool:
		return true
	case string:
		return lex.Name(x)
	case []string:
		return (len(x) == 1 || what == "8" && len(x) <= 8) && !slices.ContainsFunc(x, func(s string) bool { return !lex.Name(s) })
	case api.Expr:
		return map[string]func() bool{
			"":     func() bool { return expr.May(x) },
			"form": func() bool { return expr.May(x) && expr.Named(x) },
			"mark": func() bool { return shape.Mark(x) },
			"call": func() bool {
				return expr.May(x) && slices.Contains([]api.ExprKind{api.ExName, api.ExSelect, api.ExCall}, x.Kind)
			},
		}[what]()
	case []api.Expr:
		return marks(x, 8)
	case api.Disc:
		return shape.MayDisc(x)
	case api.Indic:
		return shape.MayIndic(x) && (what != "alone" || shape.SameIndic(x, api.Indic{Name: x.Name}))
	case api.TypeDef:
		return shape.MayType(x)
	case []api.Param:
		return shape.MayParams(x)
	case []api.Aspect:
		return shape.MayAspects(x)
	case []api.Comp:
		return shape.MayComps(x)
	case []api.Assoc:
		return expr.MayArgs(x)
	case []api.Arm: // see armed
		return true
	case []api.Handler:
		return handlers(x)
	case []api.Stmt:
		return every(v)
	case []api.Decl:
		return every(v) && kindTable[what].MatchString(numbers(x))
	}
	panic(field)
}

func marks(l []api.Expr, most int) bool {
	return len(l) >= 1 && len(l) <= most && !slices.ContainsFunc(l, func(e api.Expr) bool { return !shape.Mark(e) })
}

func numbers(l []api.Decl) string {
	out := ""
	for _, d := range l {
		out += strconv.Itoa(int(d.Kind)) + " "
	}
	return out
}

// every reports whether all elements of a list may be.
func every(v reflect.Value) bool {
	for i := range v.Len() {
		if !may(v.Index(i)) {
			return false
		}
	}
	return true
}

func handlers(l []api.Handler) bool {
	for i, h := range l {
		if h.Others && (len(h.Names) > 0 || i < len(l)-1) || !h.Others && !marks(h.Names, 16) || len(h.Stmts) == 0 || !every(reflect.ValueOf(h.Stmts)) {
			return false
		}
	}
	return len(l) <= 16
}

// armTable has patterns of the arms of statements.
var armTable = map[api.StmtKind]*regexp.Regexp{
	api.StIf: regexp.MustCompile(`^(pcs ){1,16}$`), api.StCase: regexp.MustCompile(`^(phs ){1,16}$`),
	api.StTimed: regexp.MustCompile(`^kfs? dfs? $`), api.StCond: regexp.MustCompile(`^kfs? $`),
	api.StSelect: regexp.MustCompile(`^(([ad]c?fs?|tc?) ){1,16}$`),
}

// armed reports whether a statement has the arms of its kind, and together with its Else.
func armed(s api.Stmt) bool {
	if s.Kind != api.StSelect {
		pattern := armTable[s.Kind]
		return pattern == nil || pattern.MatchString(letters(s.Arms))
	}
	l := letters(s.Arms)
	ways := 0
	for _, there := range []bool{strings.Contains(l, "t"), strings.Contains(l, "d"), len(s.Else) > 0} {
		ways += map[bool]int{true: 1}[there]
	}
	return armTable[s.Kind].MatchString(l) && strings.Contains(l, "a") && strings.Count(l, "t") <= 1 && ways <= 1
}

// firsts are the kinds of statements that stand first in arms.
var firsts = map[api.ArmKind][]api.StmtKind{api.ArmAccept: {api.StAccept}, api.ArmDelay: {api.StDelay, api.StUntil}, api.ArmCall: {api.StCall}}

// letters tells what arms are: their kind (p a d t k), c for a Cond, h for Choices, f for a First of the kind that must be there, s for Stmts, and ! for what is not valid.
func letters(l []api.Arm) string {
	out := ""
	for _, a := range l {
		out += map[api.ArmKind]string{api.ArmPlain: "p", api.ArmAccept: "a", api.ArmDelay: "d", api.ArmTerminate: "t", api.ArmCall: "k"}[a.Kind]
		out += letter(!absent(reflect.ValueOf(a.Cond)), "c", expr.May(a.Cond))
		out += letter(len(a.Choices) > 0, "h", expr.MayChoices(a.Choices))
		out += letter(len(a.First) > 0, "f", len(a.First) == 1 && slices.Contains(firsts[a.Kind], a.First[0].Kind) && every(reflect.ValueOf(a.First)))
		out += letter(len(a.Stmts) > 0, "s", every(reflect.ValueOf(a.Stmts))) + " "
	}
	return out
}

func letter(there bool, s string, valid bool) string {
	switch {
	case !there:
		return ""
	case !valid:
		return "!"
	}
	return s
}

// mayUnit is a reference of May.
func mayUnit(u api.Unit) bool {
	parent := !absent(reflect.ValueOf(u.Parent))
	kind := map[bool]*regexp.Regexp{
		false: kinds(1, 1, api.DcPackage, api.DcPackageBody, api.DcProcBody, api.DcGeneric, api.DcInstance),
		true:  kinds(1, 1, api.DcProcBody, api.DcPackageBody, api.DcTaskBody, api.DcProtectedBody),
	}[parent]
	return len(u.With) <= 16 && !slices.ContainsFunc(u.With, func(s string) bool { return !lex.Name(s) }) &&
		(len(u.Use) == 0 || marks(u.Use, 16)) && (!parent || shape.Mark(u.Parent)) && kind.MatchString(numbers([]api.Decl{u.D})) && whole(u.D)
}
