package expr

import (
	"ceiling/api"
	"ceiling/token"
)

// Tokens returns the tokens of an expression.
func Tokens(e api.Expr) ([]api.Token, api.Errno) {
	if !May(e) {
		return nil, api.ErrArg
	}
	var w writer
	w.expr(e)
	return w.L, api.OK
}

// ArgTokens returns the tokens of arguments.
func ArgTokens(l []api.Assoc) ([]api.Token, api.Errno) {
	if !MayArgs(l) {
		return nil, api.ErrArg
	}
	var w writer
	w.assocs(l)
	return w.L, api.OK
}

// ChoiceTokens returns the tokens of choices.
func ChoiceTokens(l []api.Choice) ([]api.Token, api.Errno) {
	if !MayChoices(l) {
		return nil, api.ErrArg
	}
	var w writer
	w.choices(l)
	return w.L, api.OK
}

// A writer has the tokens of valid expressions.
type writer struct{ token.List }

func (w *writer) expr(e api.Expr) {
	switch e.Kind {
	case api.ExInt:
		w.Put(api.Token{Kind: api.TokInt, N: e.N})
	case api.ExNull:
		w.Fixed("null")
	case api.ExAggr:
		w.Fixed("(")
		w.assocs(e.A)
		w.Fixed(")")
	case api.ExIf:
		w.Fixed("(", "if")
		w.expr(e.L[0])
		w.Fixed("then")
		w.expr(e.L[1])
		w.Fixed("else")
		w.expr(e.L[2])
		w.Fixed(")")
	case api.ExMonadic:
		w.Put(spelled(e.Oper)...)
		w.part(e.L[0], loosestOperand(e.Oper))
	case api.ExDyadic:
		left, right := loosestOperands(e)
		w.part(e.L[0], left)
		w.Put(spelled(e.Oper)...)
		w.part(e.L[1], right)
	case api.ExIn:
		w.member(e, "in")
	case api.ExNotIn:
		w.member(e, "not", "in")
	default:
		w.named(e)
	}
}

// named puts an expression of the form of a name.
func (w *writer) named(e api.Expr) {
	if e.Kind == api.ExName {
		w.Name(e.S)
		return
	}
	w.expr(e.L[0])
	switch e.Kind {
	case api.ExSelect:
		w.Fixed(".")
		w.Name(e.S)
	case api.ExDeref:
		w.Fixed(".", "all")
	case api.ExAttr:
		w.Fixed("'")
		w.Name(e.S)
	case api.ExCall:
		w.Fixed("(")
		w.assocs(e.A)
		w.Fixed(")")
	case api.ExQual:
		w.Fixed("'")
		w.qualified(e.L[1])
	}
}

// qualified puts what is qualified, which stands in parentheses of its own or of the qualification.
func (w *writer) qualified(e api.Expr) {
	if e.Kind == api.ExAggr || e.Kind == api.ExIf {
		w.expr(e)
	} else {
		w.enclosed(e)
	}
}

func (w *writer) member(e api.Expr, operator ...string) {
	w.part(e.L[0], 2)
	w.Fixed(operator...)
	if len(e.L) == 2 {
		w.expr(e.L[1])
	} else {
		w.interval(e.L[1], e.L[2])
	}
}

func (w *writer) interval(lo, hi api.Expr) {
	w.part(lo, 2)
	w.Fixed("..")
	w.part(hi, 2)
}

// part puts a part, between parentheses if its level is less than the least one allowed.
func (w *writer) part(e api.Expr, least int) {
	if Level(e) < least {
		w.enclosed(e)
	} else {
		w.expr(e)
	}
}

func (w *writer) enclosed(e api.Expr) {
	w.Fixed("(")
	w.expr(e)
	w.Fixed(")")
}

// assocs puts arguments or associations.
func (w *writer) assocs(l []api.Assoc) {
	for i, a := range l {
		if i > 0 {
			w.Fixed(",")
		}
		if len(a.Choices) > 0 {
			w.choices(a.Choices)
			w.Fixed("=>")
		}
		w.expr(a.E)
	}
}

func (w *writer) choices(l []api.Choice) {
	for i, c := range l {
		if i > 0 {
			w.Fixed("|")
		}
		switch c.Kind {
		case api.ChExpr:
			w.expr(c.L[0])
		case api.ChRange:
			w.interval(c.L[0], c.L[1])
		case api.ChOthers:
			w.Fixed("others")
		}
	}
}

// loosestOperand returns the least level that the operand of an operator has without parentheses.
func loosestOperand(o api.Operator) int { return monadicLevel(o) + 1 }

// loosestOperands returns the least levels that the operands of an ExDyadic have without parentheses.
func loosestOperands(e api.Expr) (left, right int) {
	level := Level(e)
	first := e.L[0]
	switch {
	case level >= 2, level == 0 && first.Kind == api.ExDyadic && first.Oper == e.Oper:
		return level, level + 1
	}
	return level + 1, level + 1
}
