package shape_test

import (
	"reflect"
	"regexp"
	"slices"
	"strconv"
	"strings"
	"testing"

	"ceiling/api"
	"ceiling/expr"
	"ceiling/lex"
	"ceiling/shape"
)

// What the chapter says, once more and in the most direct way: by patterns, and by texts that are put together.

// A kind is one of the six sorts of things that the layer has, with its functions and their references.
type kind[T any] struct {
	some     func(maker) T
	may, ref func(T) bool
	same     func(a, b T) bool
	lines    func(x T, depth int) ([]api.Line, api.Errno)
	write    func(writer, T, int) []line
	front    func([]api.Token) (T, int, api.Errno)
	parse    func(*parser) T
}

var (
	indics  = kind[api.Indic]{maker.indic, shape.MayIndic, mayIndic, shape.SameIndic, single(shape.IndicTokens), alone(writer.indic), shape.FrontIndic, (*parser).indic}
	discs   = kind[api.Disc]{maker.disc, shape.MayDisc, mayDisc, shape.SameDisc, single(shape.DiscTokens), alone(writer.disc), shape.FrontDisc, (*parser).disc}
	params  = kind[[]api.Param]{maker.params, shape.MayParams, mayParams, shape.SameParams, single(shape.ParamTokens), alone(writer.params), shape.FrontParams, (*parser).params}
	aspects = kind[[]api.Aspect]{maker.aspects, shape.MayAspects, mayAspects, shape.SameAspects, single(shape.AspectTokens), alone(writer.aspects), shape.FrontAspects, (*parser).aspects}
	comps   = kind[[]api.Comp]{maker.comps, shape.MayComps, mayComps, shape.SameComps, shape.CompLines, writer.comps, shape.FrontComps, (*parser).comps}
	types   = kind[api.TypeDef]{maker.definition, shape.MayType, mayType, shape.SameType, shape.TypeLines, writer.definition, shape.FrontType, (*parser).definition}
)

// kinds are all of them, with the tests that are the same for all.
var kinds = []interface {
	randomThings(*testing.T)
	randomWriting(*testing.T)
	compare(*testing.T, []api.Token)
	randomLists(*testing.T)
	writtenIsRead(*testing.T)
	readIsWritten(*testing.T)
}{indics, discs, params, aspects, comps, types}

// single turns a function that returns tokens into one that returns a line.
func single[T any](f func(T) ([]api.Token, api.Errno)) func(T, int) ([]api.Line, api.Errno) {
	return func(x T, depth int) ([]api.Line, api.Errno) {
		l, e := f(x)
		if len(l) == 0 {
			return nil, e
		}
		return []api.Line{{Depth: depth, L: l}}, e
	}
}

// alone does the same with a reference.
func alone[T any](f func(writer, T) string) func(writer, T, int) []line {
	return func(w writer, x T, depth int) []line {
		if s := f(w, x); s != "" {
			return []line{{depth, s}}
		}
		return nil
	}
}

// A line is the text of a line that is written, with its depth.
type line struct {
	depth int
	s     string
}

// joined returns lines as one text.
func joined(l []line) string {
	var out []string
	for _, x := range l {
		out = append(out, x.s)
	}
	return strings.Join(out, "\n")
}

// flat returns the tokens of lines, one line after the other.
func flat(l []api.Line) []api.Token {
	var out []api.Token
	for _, x := range l {
		out = append(out, x.L...)
	}
	return out
}

// lexed returns the tokens of a text.
func lexed(s string) []api.Token {
	l, _, e := lex.Tokens(s)
	if e != api.OK {
		panic(s + ": " + e.Error())
	}
	return l
}

// unlined returns tokens without lines.
func unlined(l []api.Token) []api.Token {
	out := slices.Clone(l)
	for i := range out {
		out[i].Line = 0
	}
	return out
}

// text writes any tokens.
func text(l []api.Token) string {
	var out []string
	for _, t := range l {
		s := t.Text
		if t.Kind == api.TokInt {
			s = strconv.FormatInt(t.N, 10)
		}
		out = append(out, s)
	}
	return strings.Join(out, " ")
}

// ex returns the expression that a text is.
func ex(s string) api.Expr {
	l := lexed(s)
	x, n, e := expr.Front(l, 0)
	if e != api.OK || n != len(l) {
		panic(s + ": " + e.Error())
	}
	return x
}

// indic returns the indication of a name alone.
func indic(s string) api.Indic { return api.Indic{Name: ex(s)} }

// copied returns a value in new memory; lists without elements are nil, and with bare, the fields that are not considered are zero.
func copied[T any](x T, bare bool) T {
	var y T
	fill(reflect.ValueOf(&y).Elem(), reflect.ValueOf(x), bare)
	return y
}

func fill(to, from reflect.Value, bare bool) {
	switch from.Kind() {
	case reflect.Struct:
		for i := range from.NumField() {
			if f := from.Type().Field(i).Name; !bare || f != "Line" && f != "Ent" && f != "T" {
				fill(to.Field(i), from.Field(i), bare)
			}
		}
	case reflect.Slice:
		for i := range from.Len() {
			to.Set(reflect.Append(to, reflect.Zero(from.Type().Elem())))
			fill(to.Index(i), from.Index(i), bare)
		}
	default:
		to.Set(from)
	}
}

// same is a reference of all functions whose names begin with Same.
func same[T any](a, b T) bool { return reflect.DeepEqual(copied(a, true), copied(b, true)) }

var marks = regexp.MustCompile(`^[A-Za-z]\w*( \. [A-Za-z]\w*)*$`)

// mark is a reference of Mark, by the tokens.
func mark(e api.Expr) bool {
	l, why := expr.Tokens(e)
	for _, t := range l {
		if t.Kind == api.TokKey {
			return false
		}
	}
	return why == api.OK && marks.MatchString(text(l))
}

// sorts tells what expressions are, with a letter for each: - absent, M a mark, A an attribute, E another valid one, x not valid.
func sorts(l ...api.Expr) string {
	out := ""
	for _, e := range l {
		switch {
		case same(e, api.Expr{}):
			out += "-"
		case !expr.May(e):
			out += "x"
		case mark(e):
			out += "M"
		case e.Kind == api.ExAttr:
			out += "A"
		default:
			out += "E"
		}
	}
	return out
}

var (
	indicated = regexp.MustCompile(`^M(---|[MAE][MAE]-|--[MAE])$`)
	discrete  = regexp.MustCompile(`^([MA]--|-[MAE][MAE]|M[MAE][MAE])$`)
)

func mayIndic(s api.Indic) bool { return indicated.MatchString(sorts(s.Name, s.Lo, s.Hi, s.Value)) }

func mayDisc(d api.Disc) bool { return discrete.MatchString(sorts(d.Name, d.Lo, d.Hi)) }

func mayNames(l []string, most int) bool {
	return len(l) >= 1 && len(l) <= most && !slices.ContainsFunc(l, func(s string) bool { return !lex.Name(s) })
}

func mayParams(l []api.Param) bool {
	all := 0
	for _, p := range l {
		all += len(p.Names)
		value := sorts(p.E)
		if !mayNames(p.Names, 8) || !mark(p.Type) || p.Mode < api.ModeIn || p.Mode > api.ModeInOut || value == "x" || value != "-" && p.Mode != api.ModeIn {
			return false
		}
	}
	return all <= 8
}

func mayAspects(l []api.Aspect) bool {
	for _, a := range l {
		if !lex.Name(a.Name) || !expr.May(a.E) {
			return false
		}
	}
	return len(l) <= 8
}

func mayComps(l []api.Comp) bool {
	all := 0
	for _, c := range l {
		all += len(c.Names)
		if !mayNames(c.Names, 8) || !mayIndic(c.Sub) || sorts(c.E) == "x" {
			return false
		}
	}
	return all <= 32
}

// uses are the fields that the kinds of type definitions use.
var uses = map[api.TypeDefKind]string{
	api.TdEnum: "Names", api.TdRange: "Lo Hi", api.TdDerived: "Sub", api.TdArray: "Disc Sub", api.TdRecord: "Comps Var Arms", api.TdAccess: "Sub", api.TdPrivate: "Limited",
}

func mayType(t api.TypeDef) bool {
	v := reflect.ValueOf(copied(t, true))
	for i := range v.NumField() {
		f := v.Type().Field(i).Name
		if f != "Kind" && !slices.Contains(strings.Fields(uses[t.Kind]), f) && !v.Field(i).IsZero() {
			return false
		}
	}
	switch t.Kind {
	case api.TdEnum:
		return mayNames(t.Names, 64)
	case api.TdRange:
		return expr.May(t.Lo) && expr.May(t.Hi)
	case api.TdDerived, api.TdAccess:
		return mayIndic(t.Sub)
	case api.TdArray:
		return mayDisc(t.Disc) && mayIndic(t.Sub)
	case api.TdRecord:
		return mayRecord(t)
	}
	return t.Kind == api.TdPrivate
}

func mayRecord(t api.TypeDef) bool {
	all := slices.Clone(t.Comps)
	for _, a := range t.Arms {
		all = append(all, a.Comps...)
		if !expr.MayChoices(a.Choices) {
			return false
		}
	}
	return mayComps(all) && (t.Var == "" && len(t.Arms) == 0 || lex.Name(t.Var) && len(t.Arms) >= 1 && len(t.Arms) <= 16)
}

// A writer writes what is valid as texts. Where more returns true, it chooses the longer one of two forms that are read the same.
type writer struct{ more func() bool }

var plain = writer{func() bool { return false }}

func (w writer) expr(e api.Expr, least int) string {
	l, why := expr.Tokens(e)
	if why != api.OK {
		panic(why)
	}
	s := text(l)
	if expr.Level(e) < least || w.more() {
		s = "( " + s + " )"
	}
	return s
}

func (w writer) bounds(lo, hi api.Expr) string { return w.expr(lo, 2) + " .. " + w.expr(hi, 2) }

func (w writer) initial(e api.Expr) string {
	if sorts(e) == "-" {
		return ""
	}
	return " := " + w.expr(e, 0)
}

func (w writer) indic(s api.Indic) string {
	out := plain.expr(s.Name, 0)
	if sorts(s.Lo) != "-" {
		out += " range " + w.bounds(s.Lo, s.Hi)
	}
	if sorts(s.Value) != "-" {
		out += " ( " + w.expr(s.Value, 0) + " )"
	}
	return out
}

func (w writer) disc(d api.Disc) string {
	switch sorts(d.Name, d.Lo)[0:2] {
	case "M-", "A-":
		return w.expr(d.Name, 0)
	case "MM", "MA", "ME":
		return w.expr(d.Name, 0) + " range " + w.bounds(d.Lo, d.Hi)
	}
	return w.bounds(d.Lo, d.Hi)
}

func (w writer) params(l []api.Param) string {
	var out []string
	for _, p := range l {
		mode := map[api.ModeKind]string{api.ModeOut: "out ", api.ModeInOut: "in out "}[p.Mode]
		if p.Mode == api.ModeIn && w.more() {
			mode = "in "
		}
		out = append(out, strings.Join(p.Names, " , ")+" : "+mode+plain.expr(p.Type, 0)+w.initial(p.E))
	}
	return strings.Join(out, " ; ")
}

func (w writer) aspects(l []api.Aspect) string {
	var out []string
	for _, a := range l {
		out = append(out, a.Name+" => "+w.expr(a.E, 0))
	}
	return strings.Join(out, " , ")
}

func (w writer) comps(l []api.Comp, depth int) []line {
	if len(l) == 0 {
		return []line{{depth, "null ;"}}
	}
	var out []line
	for _, c := range l {
		out = append(out, line{depth, strings.Join(c.Names, " , ") + " : " + w.indic(c.Sub) + w.initial(c.E) + " ;"})
	}
	return out
}

func (w writer) definition(t api.TypeDef, depth int) []line {
	s := ""
	switch t.Kind {
	case api.TdEnum:
		s = "( " + strings.Join(t.Names, " , ") + " )"
	case api.TdRange:
		s = "range " + w.bounds(t.Lo, t.Hi)
	case api.TdDerived:
		s = "new " + w.indic(t.Sub)
	case api.TdArray:
		s = "array ( " + w.disc(t.Disc) + " ) of " + w.indic(t.Sub)
	case api.TdRecord:
		return w.record(t, depth)
	case api.TdAccess:
		s = "access " + w.indic(t.Sub)
	case api.TdPrivate:
		s = map[bool]string{false: "private", true: "limited private"}[t.Limited]
	}
	return []line{{depth, s}}
}

func (w writer) record(t api.TypeDef, depth int) []line {
	if len(t.Comps) == 0 && len(t.Arms) == 0 && !w.more() {
		return []line{{depth, "null record"}}
	}
	out := []line{{depth, "record"}}
	if len(t.Comps) > 0 || w.more() {
		out = append(out, w.comps(t.Comps, depth+1)...)
	}
	for i, a := range t.Arms {
		if i == 0 {
			out = append(out, line{depth + 1, "case " + t.Var + " is"})
		}
		l, _ := expr.ChoiceTokens(a.Choices)
		out = append(out, line{depth + 2, "when " + text(l) + " =>"})
		out = append(out, w.comps(a.Comps, depth+3)...)
	}
	if len(t.Arms) > 0 {
		out = append(out, line{depth + 1, "end case ;"})
	}
	return append(out, line{depth, "end record"})
}

// apart fails the test if two lists in a value share memory.
func apart(t *testing.T, x any) {
	t.Helper()
	var spans [][2]uintptr
	var walk func(reflect.Value)
	walk = func(v reflect.Value) {
		switch v.Kind() {
		case reflect.Struct:
			for i := range v.NumField() {
				walk(v.Field(i))
			}
		case reflect.Slice:
			from := v.Pointer()
			to := from + uintptr(v.Cap())*v.Type().Elem().Size()
			for _, s := range spans {
				if from < s[1] && s[0] < to {
					t.Errorf("shared memory: %v", x)
				}
			}
			spans = append(spans, [2]uintptr{from, to})
			for i := range v.Len() {
				walk(v.Index(i))
			}
		}
	}
	walk(reflect.ValueOf(x))
}
