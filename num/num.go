// Package num is layer 1: see shared/doc/01-num.md.
package num

import "ceiling/api"

// In reports whether an integer is in the base range.
func In(v int64) bool { return api.MinBase <= v && v <= api.MaxBase }

// Apply returns the value of an operator for operands of the base range; false: it has none there.
func Apply(op api.COp, a, b int64) (int64, bool) {
	if !takes(op, a) || !unary(op) && !takes(op, b) {
		return 0, false
	}
	// 64 bits hold all sums and products of the base range, so that nothing is lost modulo 2^64.
	v, ok := Wrap(op, a, b)
	if !ok || !In(v) {
		return 0, false
	}
	return v, true
}

// Wrap returns the value of an operator modulo 2^64; false: it has none.
func Wrap(op api.COp, a, b int64) (int64, bool) {
	f := find(op)
	if f == nil || divides(op) && b == 0 {
		return 0, false
	}
	v, _ := f(a, b)
	return v, true
}

// takes reports whether Apply of an operator may have a value for an operand.
func takes(op api.COp, v int64) bool {
	if logical(op) || op == api.CNot {
		return Has(truths, v)
	}
	return In(v)
}

// divides reports whether an operator has no value for a second operand 0.
func divides(op api.COp) bool { return api.CDiv <= op && op <= api.CMod }

// relational reports whether an operator compares its operands.
func relational(op api.COp) bool { return api.CEq <= op && op <= api.CGe }

// logical reports whether an operator joins two truth values.
func logical(op api.COp) bool { return api.CAnd <= op && op <= api.CXor }

// unary reports whether an operator has one operand.
func unary(op api.COp) bool { return api.CNeg <= op && op <= api.CNot }
