package static

import "ceiling/api"

// An operator has the value for one operand, or for two.
type operator struct {
	one  func(a int64) int64
	two  func(a, b int64) int64
	ends func(a int64) bool // Is the value clear from the left operand alone? The right one is 0 then.
}

// operators returns the operators. Operands lie in the range of a type, so that all sums and differences but 2^63 are correct; that becomes -2^63, which is in no range either.
func operators() map[api.Operator]operator {
	return map[api.Operator]operator{
		api.OperAdd:  {two: func(a, b int64) int64 { return a + b }},
		api.OperSub:  {two: func(a, b int64) int64 { return a - b }},
		api.OperMul:  {two: product},
		api.OperDiv:  {two: func(a, b int64) int64 { return a / divisor(b) }},
		api.OperMod:  {two: modulo},
		api.OperRem:  {two: func(a, b int64) int64 { return a % divisor(b) }},
		api.OperEq:   {two: func(a, b int64) int64 { return truth(a == b) }},
		api.OperNe:   {two: func(a, b int64) int64 { return truth(a != b) }},
		api.OperLt:   {two: func(a, b int64) int64 { return truth(a < b) }},
		api.OperLe:   {two: func(a, b int64) int64 { return truth(a <= b) }},
		api.OperGt:   {two: func(a, b int64) int64 { return truth(a > b) }},
		api.OperGe:   {two: func(a, b int64) int64 { return truth(a >= b) }},
		api.OperAnd:  {two: func(a, b int64) int64 { return truth(a == 1 && b == 1) }},
		api.OperOr:   {two: func(a, b int64) int64 { return truth(a != 0 || b != 0) }},
		api.OperXor:  {two: func(a, b int64) int64 { return truth(a != b) }},
		api.OperThen: {two: both, ends: func(a int64) bool { return a == 0 }},
		api.OperElse: {two: either, ends: func(a int64) bool { return a != 0 }},
		api.OperPos:  {one: func(a int64) int64 { return a }},
		api.OperNeg:  {one: func(a int64) int64 { return -a }},
		api.OperAbs:  {one: magnitude},
		api.OperNot:  {one: func(a int64) int64 { return truth(a == 0) }},
	}
}

func truth(is bool) int64 {
	if is {
		return 1
	}
	return 0
}

func magnitude(a int64) int64 {
	if a < 0 {
		return -a
	}
	return a
}

// product returns a product; one that is greater than all ranges may not fit.
func product(a, b int64) int64 {
	if b != 0 && magnitude(a) > api.MaxValue/magnitude(b) {
		panic(noValue{})
	}
	return a * b
}

// divisor returns a right operand, which must not be 0.
func divisor(b int64) int64 {
	if b == 0 {
		panic(noValue{})
	}
	return b
}

func modulo(a, b int64) int64 {
	r := a % divisor(b)
	if r != 0 && (r < 0) != (b < 0) {
		r += b
	}
	return r
}

func both(a, b int64) int64 {
	if a == 0 {
		return 0
	}
	return b
}

func either(a, b int64) int64 {
	if a == 0 {
		return b
	}
	return 1
}
