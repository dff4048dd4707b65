package expr

import (
	"strings"

	"ceiling/api"
	"ceiling/token"
)

// spellings are the tokens of the operators.
var spellings = [...]string{
	api.OperAdd: "+", api.OperSub: "-", api.OperMul: "*", api.OperDiv: "/", api.OperMod: "mod", api.OperRem: "rem",
	api.OperEq: "=", api.OperNe: "/=", api.OperLt: "<", api.OperLe: "<=", api.OperGt: ">", api.OperGe: ">=",
	api.OperAnd: "and", api.OperOr: "or", api.OperXor: "xor", api.OperThen: "and then", api.OperElse: "or else",
	api.OperPos: "+", api.OperNeg: "-", api.OperAbs: "abs", api.OperNot: "not",
}

// spelled returns the tokens of an operator that exists.
func spelled(o api.Operator) []api.Token {
	var l []api.Token
	for _, s := range strings.Fields(spellings[o]) {
		l = append(l, token.Fixed(s))
	}
	return l
}

// dyadics returns the operators with two operands that are one token, by its text.
func dyadics() map[string]api.Operator { return byText(api.OperAdd, api.OperXor) }

// monadics returns the operators with one operand, by the text of their token.
func monadics() map[string]api.Operator { return byText(api.OperPos, api.OperNot) }

// byText returns consecutive operators of one token each.
func byText(first, last api.Operator) map[string]api.Operator {
	m := make(map[string]api.Operator, last-first+1)
	for o := first; o <= last; o++ {
		m[spellings[o]] = o
	}
	return m
}

// dyadicLevel returns the level of an expression with an operator of two operands; the strongest one if it is none.
func dyadicLevel(o api.Operator) int {
	switch o {
	case api.OperAnd, api.OperOr, api.OperXor, api.OperThen, api.OperElse:
		return 0
	case api.OperEq, api.OperNe, api.OperLt, api.OperLe, api.OperGt, api.OperGe:
		return 1
	case api.OperAdd, api.OperSub:
		return 2
	case api.OperMul, api.OperDiv, api.OperMod, api.OperRem:
		return 3
	}
	return strongest
}

// monadicLevel returns the level of an expression with an operator of one operand; the strongest one if it is none.
func monadicLevel(o api.Operator) int {
	switch o {
	case api.OperPos, api.OperNeg:
		return 2
	case api.OperAbs, api.OperNot:
		return 4
	}
	return strongest
}
