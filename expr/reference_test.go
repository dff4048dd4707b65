package expr_test

import (
	"reflect"
	"strconv"
	"strings"
	"testing"

	"ceiling/api"
	"ceiling/lex"
)

// What the chapter says of expressions, once more and in the most direct way: by recursion, and by texts that are put together.

var operators = map[api.Operator]string{
	api.OperAdd: "+", api.OperSub: "-", api.OperMul: "*", api.OperDiv: "/", api.OperMod: "mod", api.OperRem: "rem",
	api.OperEq: "=", api.OperNe: "/=", api.OperLt: "<", api.OperLe: "<=", api.OperGt: ">", api.OperGe: ">=",
	api.OperAnd: "and", api.OperOr: "or", api.OperXor: "xor", api.OperThen: "and then", api.OperElse: "or else",
	api.OperPos: "+", api.OperNeg: "-", api.OperAbs: "abs", api.OperNot: "not",
}

func name(s string) api.Expr { return api.Expr{Kind: api.ExName, S: s} }

func num(n int64) api.Expr { return api.Expr{Kind: api.ExInt, N: n} }

func of(k api.ExprKind, l ...api.Expr) api.Expr { return api.Expr{Kind: k, L: l} }

func with(k api.ExprKind, s string, x api.Expr) api.Expr {
	return api.Expr{Kind: k, S: s, L: []api.Expr{x}}
}

func one(o api.Operator, x api.Expr) api.Expr {
	return api.Expr{Kind: api.ExMonadic, Oper: o, L: []api.Expr{x}}
}

func two(o api.Operator, x, y api.Expr) api.Expr {
	return api.Expr{Kind: api.ExDyadic, Oper: o, L: []api.Expr{x, y}}
}

func call(f api.Expr, a ...api.Assoc) api.Expr {
	return api.Expr{Kind: api.ExCall, L: []api.Expr{f}, A: a}
}

func aggr(a ...api.Assoc) api.Expr { return api.Expr{Kind: api.ExAggr, A: a} }

func value(x api.Expr) api.Assoc { return api.Assoc{E: x} }

func when(x api.Expr, l ...api.Choice) api.Assoc { return api.Assoc{Choices: l, E: x} }

var others = api.Choice{Kind: api.ChOthers}

func is(x api.Expr) api.Choice { return api.Choice{Kind: api.ChExpr, L: []api.Expr{x}} }

func span(x, y api.Expr) api.Choice { return api.Choice{Kind: api.ChRange, L: []api.Expr{x, y}} }

// lexed returns the tokens of a text.
func lexed(t testing.TB, s string) []api.Token {
	t.Helper()
	l, _, e := lex.Tokens(s)
	if e != api.OK {
		t.Fatalf("%q: %v", s, e)
	}
	return l
}

// unlined returns tokens without lines.
func unlined(l []api.Token) []api.Token {
	out := append([]api.Token{}, l...)
	for i := range out {
		out[i].Line = 0
	}
	return out
}

// text writes any tokens, for messages and for comparing without lines.
func text(l []api.Token) string {
	var out []string
	for _, t := range l {
		s := t.Text
		if t.Kind == api.TokInt {
			s = strconv.FormatInt(t.N, 10)
		}
		out = append(out, s)
	}
	return strings.Join(out, " ")
}

// inside calls f with each expression in the lists that an expression has itself, so that f can change it.
func inside(e *api.Expr, f func(*api.Expr)) {
	for i := range e.L {
		f(&e.L[i])
	}
	for i := range e.A {
		for j := range e.A[i].Choices {
			for k := range e.A[i].Choices[j].L {
				f(&e.A[i].Choices[j].L[k])
			}
		}
		f(&e.A[i].E)
	}
}

// measured returns the size and the depth of a tree.
func measured(e api.Expr) (size, depth int) {
	size = 1
	inside(&e, func(x *api.Expr) {
		n, d := measured(*x)
		size, depth = size+n, max(depth, d)
	})
	return size, depth + 1
}

// copied returns an expression in new memory; lists without elements are nil, and with bare, Line, Ent and T are zero.
func copied(e api.Expr, bare bool) api.Expr {
	e.L = append([]api.Expr(nil), e.L...)
	e.A = append([]api.Assoc(nil), e.A...)
	for i := range e.A {
		e.A[i].Choices = append([]api.Choice(nil), e.A[i].Choices...)
		for j := range e.A[i].Choices {
			e.A[i].Choices[j].L = append([]api.Expr(nil), e.A[i].Choices[j].L...)
		}
	}
	if bare {
		e.Line, e.Ent, e.T = 0, 0, 0
	}
	inside(&e, func(x *api.Expr) { *x = copied(*x, bare) })
	return e
}

// same is a reference of Same.
func same(a, b api.Expr) bool { return reflect.DeepEqual(copied(a, true), copied(b, true)) }

func named(e api.Expr) bool { return e.Kind >= api.ExName && e.Kind <= api.ExQual }

func among(n int, l ...int) bool {
	for _, x := range l {
		if n == x {
			return true
		}
	}
	return false
}

// used returns a copy of an expression in which only the fields that its kind uses are set, and how many parts its L may have.
func used(e api.Expr) (api.Expr, []int) {
	x := api.Expr{Kind: e.Kind, L: e.L, Line: e.Line, Ent: e.Ent, T: e.T}
	switch e.Kind {
	case api.ExInt:
		x.N = e.N
		return x, []int{0}
	case api.ExNull:
		return x, []int{0}
	case api.ExName:
		x.S = e.S
		return x, []int{0}
	case api.ExSelect, api.ExAttr:
		x.S = e.S
		return x, []int{1}
	case api.ExDeref:
		return x, []int{1}
	case api.ExCall:
		x.A = e.A
		return x, []int{1}
	case api.ExQual:
		return x, []int{2}
	case api.ExAggr:
		x.A = e.A
		return x, []int{0}
	case api.ExIf:
		return x, []int{3}
	case api.ExMonadic:
		x.Oper = e.Oper
		return x, []int{1}
	case api.ExDyadic:
		x.Oper = e.Oper
		return x, []int{2}
	case api.ExIn, api.ExNotIn:
		return x, []int{2, 3}
	}
	return x, nil
}

// sound reports whether the parts of an expression and what uses them are valid, without the limits of size and depth.
func sound(e api.Expr) bool {
	x, n := used(e)
	ok := among(len(e.L), n...) && reflect.DeepEqual(copied(x, false), copied(e, false))
	switch {
	case !ok:
		return false
	case e.Kind == api.ExInt:
		ok = e.N >= 0 && e.N <= 2147483647
	case e.Kind == api.ExName:
		ok = lex.Name(e.S)
	case e.Kind == api.ExSelect || e.Kind == api.ExAttr:
		ok = lex.Name(e.S) && named(e.L[0])
	case e.Kind == api.ExDeref || e.Kind == api.ExQual:
		ok = named(e.L[0])
	case e.Kind == api.ExCall:
		ok = named(e.L[0]) && arguments(e.A)
	case e.Kind == api.ExAggr:
		ok = associations(e.A)
	case e.Kind == api.ExMonadic:
		ok = e.Oper >= api.OperPos && e.Oper <= api.OperNot
	case e.Kind == api.ExDyadic:
		ok = e.Oper >= api.OperAdd && e.Oper <= api.OperElse
	case e.Kind == api.ExIn || e.Kind == api.ExNotIn:
		ok = len(e.L) == 3 || named(e.L[1])
	}
	inside(&e, func(x *api.Expr) { ok = ok && sound(*x) })
	return ok
}

func arguments(l []api.Assoc) bool {
	behind := false
	for _, a := range l {
		c := a.Choices
		if len(c) == 0 && behind || len(c) > 0 && (len(c) != 1 || c[0].Kind != api.ChExpr || len(c[0].L) != 1 || c[0].L[0].Kind != api.ExName) {
			return false
		}
		behind = behind || len(c) > 0
	}
	return len(l) >= 1 && len(l) <= 8
}

func associations(l []api.Assoc) bool {
	behind := false
	for i, a := range l {
		if len(a.Choices) == 0 && behind || len(a.Choices) > 0 && !choices(a.Choices) {
			return false
		}
		for _, c := range a.Choices {
			if c.Kind == api.ChOthers && i != len(l)-1 {
				return false
			}
		}
		behind = behind || len(a.Choices) > 0
	}
	return len(l) >= 1 && len(l) <= 32 && (len(l) > 1 || behind)
}

func choices(l []api.Choice) bool {
	for _, c := range l {
		if c.Kind < api.ChExpr || c.Kind > api.ChOthers || len(c.L) != []int{0, 1, 2, 0}[c.Kind] || c.Kind == api.ChOthers && len(l) > 1 {
			return false
		}
	}
	return len(l) >= 1 && len(l) <= 16
}

// may is a reference of May.
func may(e api.Expr) bool {
	size, depth := measured(e)
	return size <= 256 && depth <= 32 && sound(e)
}

func mayArgs(l []api.Assoc) bool { return may(call(name("x"), l...)) }

func mayChoices(l []api.Choice) bool {
	for _, c := range l {
		for _, e := range c.L {
			if !may(e) {
				return false
			}
		}
	}
	return choices(l)
}

// level is a reference of Level.
func level(e api.Expr) int {
	if e.Kind == api.ExIn || e.Kind == api.ExNotIn {
		return 1
	}
	s := operators[e.Oper]
	switch {
	case e.Kind == api.ExDyadic && e.Oper <= api.OperElse:
		for n, l := range []string{" and or xor and then or else ", " = /= < <= > >= ", " + - ", " * / mod rem "} {
			if s != "" && strings.Contains(l, " "+s+" ") {
				return n
			}
		}
	case e.Kind == api.ExMonadic && e.Oper >= api.OperPos && s != "":
		return map[string]int{"+": 2, "-": 2, "abs": 4, "not": 4}[s]
	}
	return 5
}

// A writer writes valid expressions as texts. Where more returns true, a part that may stand in parentheses does.
type writer struct{ more func() bool }

var plain = writer{func() bool { return false }}

func (w writer) part(e api.Expr, least int) string {
	s := w.expr(e)
	if level(e) < least {
		s = "( " + s + " )"
	}
	for w.more() {
		s = "( " + s + " )"
	}
	return s
}

func (w writer) expr(e api.Expr) string {
	operator := operators[e.Oper]
	switch e.Kind {
	case api.ExInt:
		return strconv.FormatInt(e.N, 10)
	case api.ExNull:
		return "null"
	case api.ExName:
		return e.S
	case api.ExSelect:
		return w.expr(e.L[0]) + " . " + e.S
	case api.ExDeref:
		return w.expr(e.L[0]) + " . all"
	case api.ExAttr:
		return w.expr(e.L[0]) + " ' " + e.S
	case api.ExCall:
		return w.expr(e.L[0]) + " ( " + w.assocs(e.A, false) + " )"
	case api.ExQual:
		if e.L[1].Kind == api.ExAggr || e.L[1].Kind == api.ExIf {
			return w.expr(e.L[0]) + " ' " + w.part(e.L[1], 0)
		}
		return w.expr(e.L[0]) + " ' ( " + w.part(e.L[1], 0) + " )"
	case api.ExAggr:
		return "( " + w.assocs(e.A, true) + " )"
	case api.ExIf:
		return "( if " + w.part(e.L[0], 0) + " then " + w.part(e.L[1], 0) + " else " + w.part(e.L[2], 0) + " )"
	case api.ExMonadic:
		return operator + " " + w.part(e.L[0], map[int]int{2: 3, 4: 5}[level(e)])
	case api.ExDyadic:
		left, right := []int{1, 2, 2, 3}[level(e)], []int{1, 2, 3, 4}[level(e)]
		if level(e) == 0 && e.L[0].Kind == api.ExDyadic && e.L[0].Oper == e.Oper {
			left = 0
		}
		return w.part(e.L[0], left) + " " + operator + " " + w.part(e.L[1], right)
	}
	s := w.part(e.L[0], 2) + map[api.ExprKind]string{api.ExIn: " in ", api.ExNotIn: " not in "}[e.Kind]
	if len(e.L) == 2 {
		return s + w.part(e.L[1], 0)
	}
	return s + w.part(e.L[1], 2) + " .. " + w.part(e.L[2], 2)
}

func (w writer) assocs(l []api.Assoc, free bool) string {
	var out []string
	for _, a := range l {
		s := w.part(a.E, 0)
		if len(a.Choices) > 0 && free {
			s = w.choices(a.Choices) + " => " + s
		} else if len(a.Choices) > 0 {
			s = a.Choices[0].L[0].S + " => " + s
		}
		out = append(out, s)
	}
	return strings.Join(out, " , ")
}

func (w writer) choices(l []api.Choice) string {
	var out []string
	for _, c := range l {
		switch c.Kind {
		case api.ChExpr:
			out = append(out, w.part(c.L[0], 0))
		case api.ChRange:
			out = append(out, w.part(c.L[0], 2)+" .. "+w.part(c.L[1], 2))
		case api.ChOthers:
			out = append(out, "others")
		}
	}
	return strings.Join(out, " | ")
}
