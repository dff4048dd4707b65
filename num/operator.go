package num

import (
	"math"

	"ceiling/api"
)

// An operator works out its value modulo 2^64, and reports whether that is the exact value. It is not called with a divisor 0.
type operator func(a, b int64) (int64, bool)

// find returns an operator; nil: it does not exist. Each kind has a map of its own: maps of so few rows need no memory but the stack's.
func find(op api.COp) operator {
	switch {
	case relational(op):
		return relation(op)
	case logical(op):
		return bitwise(op)
	case unary(op):
		return single(op)
	}
	return arithmetic(op)
}

func arithmetic(op api.COp) operator {
	return map[api.COp]operator{
		api.CAdd: sum,
		api.CSub: difference,
		api.CMul: product,
		api.CDiv: quotient,
		api.CRem: remainder,
		api.CMod: modulus,
	}[op]
}

func relation(op api.COp) operator {
	return map[api.COp]operator{
		api.CEq: func(a, b int64) (int64, bool) { return truth(a == b), true },
		api.CNe: func(a, b int64) (int64, bool) { return truth(a != b), true },
		api.CLt: func(a, b int64) (int64, bool) { return truth(a < b), true },
		api.CLe: func(a, b int64) (int64, bool) { return truth(a <= b), true },
		api.CGt: func(a, b int64) (int64, bool) { return truth(a > b), true },
		api.CGe: func(a, b int64) (int64, bool) { return truth(a >= b), true },
	}[op]
}

func bitwise(op api.COp) operator {
	return map[api.COp]operator{
		api.CAnd: func(a, b int64) (int64, bool) { return a & b, true },
		api.COr:  func(a, b int64) (int64, bool) { return a | b, true },
		api.CXor: func(a, b int64) (int64, bool) { return a ^ b, true },
	}[op]
}

func single(op api.COp) operator {
	return map[api.COp]operator{
		api.CNeg: func(a, _ int64) (int64, bool) { return difference(0, a) },
		api.CAbs: func(a, _ int64) (int64, bool) { return absolute(a) },
		api.CNot: func(a, _ int64) (int64, bool) { return difference(1, a) },
	}[op]
}

func truth(v bool) int64 {
	if v {
		return 1
	}
	return 0
}

func sum(a, b int64) (int64, bool) {
	v := a + b
	return v, (v > a) == (b > 0)
}

func difference(a, b int64) (int64, bool) {
	v := a - b
	return v, (v < a) == (b > 0)
}

func product(a, b int64) (int64, bool) {
	v := a * b
	if b == 0 {
		return v, true
	}
	// -2^63 divided by -1 is itself, so that the division alone would not find that this product is too great.
	return v, v/b == a && !(a == math.MinInt64 && b == -1)
}

func quotient(a, b int64) (int64, bool) {
	return a / b, !(a == math.MinInt64 && b == -1)
}

func remainder(a, b int64) (int64, bool) { return a % b, true }

func modulus(a, b int64) (int64, bool) {
	r := a % b
	if r != 0 && (r < 0) != (b < 0) {
		r += b
	}
	return r, true
}

func absolute(a int64) (int64, bool) {
	if a >= 0 {
		return a, true
	}
	return difference(0, a)
}
