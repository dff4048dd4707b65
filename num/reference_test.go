package num_test

import (
	"math"
	"math/big"

	"ceiling/api"
)

// What the chapter says of values and intervals, once more and in integers without bounds.

func iv(lo, hi int64) api.Ival { return api.Ival{Lo: lo, Hi: hi} }

var (
	none = iv(1, 0)
	full = iv(math.MinInt64, math.MaxInt64)
)

// edges are integers at which something changes: at the bounds of the base range and of 64 bits, around 0, and around the roots of the bounds.
var edges = []int64{
	math.MinInt64, math.MinInt64 + 1, math.MinInt64 + 2, -1 << 62, api.MinBase - 1, api.MinBase, api.MinBase + 1, -46341, -7, -2, -1,
	0, 1, 2, 7, 46340, 46341, 65536, api.MaxBase - 1, api.MaxBase, api.MaxBase + 1, 3037000499, 3037000500, 1 << 62, math.MaxInt64 - 1, math.MaxInt64,
}

// operators returns all operators, and numbers that are none.
func operators() []api.COp {
	out := []api.COp{api.CNot + 1, api.CNot + 2, 64, 255}
	for op := api.NoCOp; op <= api.CNot; op++ {
		out = append(out, op)
	}
	return out
}

func alone(op api.COp) bool { return op == api.CNeg || op == api.CAbs || op == api.CNot }

// exact returns the exact value of an operator, which works bit by bit if it is one of truth values; nil: it has none.
func exact(op api.COp, a, b int64) *big.Int {
	x, y, z := big.NewInt(a), big.NewInt(b), new(big.Int)
	if b == 0 && (op == api.CDiv || op == api.CRem || op == api.CMod) {
		return nil
	}
	order := map[api.COp][]int{api.CEq: {0}, api.CNe: {-1, 1}, api.CLt: {-1}, api.CLe: {-1, 0}, api.CGt: {1}, api.CGe: {0, 1}}
	for _, sign := range order[op] {
		if x.Cmp(y) == sign {
			return big.NewInt(1)
		}
	}
	if order[op] != nil {
		return z
	}
	switch op {
	case api.CAdd:
		return z.Add(x, y)
	case api.CSub:
		return z.Sub(x, y)
	case api.CMul:
		return z.Mul(x, y)
	case api.CDiv:
		return z.Quo(x, y)
	case api.CRem:
		return z.Rem(x, y)
	case api.CMod:
		if z.Rem(x, y); z.Sign() != 0 && z.Sign() != y.Sign() {
			z.Add(z, y)
		}
		return z
	case api.CAnd:
		return z.And(x, y)
	case api.COr:
		return z.Or(x, y)
	case api.CXor:
		return z.Xor(x, y)
	case api.CNeg:
		return z.Neg(x)
	case api.CAbs:
		return z.Abs(x)
	case api.CNot:
		return z.Sub(big.NewInt(1), x)
	}
	return nil
}

func inBase(v int64) bool { return -2147483648 <= v && v <= 2147483647 }

func applied(op api.COp, a, b int64) (int64, bool) {
	if alone(op) {
		b = 0
	}
	v := exact(op, a, b)
	if v == nil || !inBase(a) || !inBase(b) || !v.IsInt64() || !inBase(v.Int64()) {
		return 0, false
	}
	truths := uint64(a) <= 1 && uint64(b) <= 1
	if (op == api.CAnd || op == api.COr || op == api.CXor || op == api.CNot) && !truths {
		return 0, false
	}
	return v.Int64(), true
}

func wrapped(op api.COp, a, b int64) (int64, bool) {
	v := exact(op, a, b)
	if v == nil {
		return 0, false
	}
	v.And(v, new(big.Int).SetUint64(math.MaxUint64))
	return int64(v.Uint64()), true
}

// span is the hull of some integers.
type span struct{ lo, hi *big.Int }

func (s *span) note(v *big.Int) {
	if s.lo == nil || v.Cmp(s.lo) < 0 {
		s.lo = v
	}
	if s.hi == nil || v.Cmp(s.hi) > 0 {
		s.hi = v
	}
}

func (s *span) ival() api.Ival {
	switch {
	case s.lo == nil:
		return none
	case !s.lo.IsInt64() || !s.hi.IsInt64():
		return full
	}
	return iv(s.lo.Int64(), s.hi.Int64())
}

// members returns all integers of a small interval, and of a large one those of some integers that it contains.
func members(a api.Ival, some []int64) []int64 {
	var out []int64
	if a.Lo <= a.Hi && uint64(a.Hi-a.Lo) < 100 {
		for i := int64(0); i <= a.Hi-a.Lo; i++ {
			out = append(out, a.Lo+i)
		}
		return out
	}
	for _, v := range some {
		if a.Lo <= v && v <= a.Hi {
			out = append(out, v)
		}
	}
	return out
}

func limits(b []api.Ival) []int64 {
	out := []int64{-1, 0, 1}
	for _, x := range b {
		out = append(out, x.Lo, x.Hi)
	}
	return out
}

// ranged returns Range of an operator; at members of both intervals it takes its least and its greatest value.
func ranged(op api.COp, a, b api.Ival) api.Ival {
	some := limits([]api.Ival{a, b})
	xs, ys := members(a, some), members(b, some)
	if alone(op) {
		ys = []int64{0}
	}
	bits := op == api.CAnd || op == api.COr || op == api.CXor
	if len(xs) == 0 || len(ys) == 0 {
		return none
	}
	if bits && (a.Lo < 0 || a.Hi > 1 || b.Lo < 0 || b.Hi > 1) {
		return full
	}
	var s span
	for _, x := range xs {
		for _, y := range ys {
			if v := exact(op, x, y); v != nil {
				s.note(v)
			}
		}
	}
	if s.lo != nil && op == api.CRem {
		return rems(a, b)
	}
	if s.lo != nil && op == api.CMod {
		return mods(a, b)
	}
	return s.ival()
}

func bigMin(a, b *big.Int) *big.Int {
	if a.Cmp(b) < 0 {
		return a
	}
	return b
}

func bigMax(a, b *big.Int) *big.Int {
	if a.Cmp(b) > 0 {
		return a
	}
	return b
}

func rems(a, b api.Ival) api.Ival {
	zero, one := big.NewInt(0), big.NewInt(1)
	m := bigMax(new(big.Int).Abs(big.NewInt(b.Lo)), new(big.Int).Abs(big.NewInt(b.Hi)))
	m = new(big.Int).Sub(m, one)
	lo := bigMin(zero, bigMax(big.NewInt(a.Lo), new(big.Int).Neg(m)))
	hi := bigMax(zero, bigMin(big.NewInt(a.Hi), m))
	return iv(lo.Int64(), hi.Int64())
}

func mods(a, b api.Ival) api.Ival {
	zero, one := big.NewInt(0), big.NewInt(1)
	hi := bigMax(zero, new(big.Int).Sub(big.NewInt(b.Hi), one))
	lo := bigMin(zero, new(big.Int).Add(big.NewInt(b.Lo), one))
	if a.Lo >= 0 && b.Lo >= 1 {
		hi = bigMin(hi, big.NewInt(a.Hi))
	}
	if a.Hi <= 0 && b.Hi <= -1 {
		lo = bigMax(lo, big.NewInt(a.Lo))
	}
	return iv(lo.Int64(), hi.Int64())
}
