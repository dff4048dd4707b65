package num

import (
	"math"

	"ceiling/api"
)

// Range returns an interval that contains the values of an operator for all operands of two intervals.
func Range(op api.COp, a, b api.Ival) api.Ival {
	f := find(op)
	switch {
	case f == nil || empty(a) || !unary(op) && empty(b):
		return none
	case divides(op) && b == api.Ival{}: // there is no divisor but 0
		return none
	case op == api.CRem:
		return remainders(a, b)
	case op == api.CMod:
		return moduli(a, b)
	case logical(op) && !(Lies(a, truths) && Lies(b, truths)):
		return full
	}
	xs, ys := telling(op, a, b)
	return hull(f, xs, ys)
}

// telling returns operands of two intervals among which an operator takes its least and its greatest value: their bounds, and what lies between where it turns.
func telling(op api.COp, a, b api.Ival) (xs, ys []int64) {
	xs, ys = []int64{a.Lo, a.Hi}, []int64{b.Lo, b.Hi}
	switch {
	case op == api.CDiv:
		ys = divisors(b)
	case op == api.CAbs && Has(a, 0):
		xs = append(xs, 0)
	case relational(op):
		// Different bounds may have an integer in common, at which alone the operands are equal.
		if both := Meet(a, b); !empty(both) {
			xs, ys = append(xs, both.Lo), append(ys, both.Lo)
		}
	}
	return xs, ys
}

// divisors returns the bounds of the negative and of the positive integers of an interval.
func divisors(b api.Ival) []int64 {
	var out []int64
	for _, sign := range []api.Ival{{Lo: math.MinInt64, Hi: -1}, {Lo: 1, Hi: math.MaxInt64}} {
		if part := Meet(b, sign); !empty(part) {
			out = append(out, part.Lo, part.Hi)
		}
	}
	return out
}

// hull returns the hull of the values of an operator for some operands, of which there is at least one each; the full interval if a value does not fit.
func hull(f operator, xs, ys []int64) api.Ival {
	var values []int64
	fits := true
	note := func(x, y int64) {
		v, exact := f(x, y)
		fits = fits && exact
		values = append(values, v)
	}
	for _, x := range xs {
		for _, y := range ys {
			note(x, y)
		}
	}
	if !fits {
		return full
	}
	return api.Ival{Lo: least(values[0], values...), Hi: greatest(values[0], values...)}
}

func remainders(a, b api.Ival) api.Ival {
	m := greatest(below(b.Lo), below(b.Hi))
	return api.Ival{Lo: least(0, greatest(a.Lo, -m)), Hi: greatest(0, least(a.Hi, m))}
}

// below returns the absolute value of v, less 1: that fits for -2^63 too.
func below(v int64) int64 {
	if v < 0 {
		return -(v + 1)
	}
	return v - 1
}

// moduli looks at the signs first, since a bound of 64 bits has no neighbour on one side.
func moduli(a, b api.Ival) api.Ival {
	var out api.Ival
	if b.Hi > 0 {
		out.Hi = b.Hi - 1
	}
	if b.Lo < 0 {
		out.Lo = b.Lo + 1
	}
	if a.Lo >= 0 && b.Lo >= 1 {
		out.Hi = least(out.Hi, a.Hi)
	}
	if a.Hi <= 0 && b.Hi <= -1 {
		out.Lo = greatest(out.Lo, a.Lo)
	}
	return out
}
