package static_test

import (
	"math/big"
	"slices"

	"ceiling/api"
)

// The reference goes through the chapter clause by clause, with calls inside calls, and with integers without bounds.

// kindOf returns the kind of a subtype.
func kindOf(t api.Table, sub int) api.TyKind {
	if sub < 0 || sub >= len(t.Subs) {
		return api.NoTy
	}
	if ty := t.Subs[sub].T; ty >= 0 && ty < len(t.Types) {
		return t.Types[ty].Kind
	}
	return api.NoTy
}

func isScalar(t api.Table, sub int) bool {
	return kindOf(t, sub) == api.TyInt || kindOf(t, sub) == api.TyEnum
}

// rangeOf returns the range of a type; nil: it has none.
func rangeOf(t api.Table, ty int) []*big.Int {
	if ty < 0 || ty >= len(t.Types) {
		return nil
	}
	two := func(a, b int64) []*big.Int { return []*big.Int{big.NewInt(a), big.NewInt(b)} }
	switch r := t.Types[ty]; {
	case r.Kind == api.TyUniv:
		return two(-4611686018427387904, 4611686018427387904)
	case r.Formal != api.NoOf:
		return nil
	case r.Kind == api.TyInt:
		return two(-2147483648, 2147483647)
	case r.Kind == api.TyEnum:
		return two(0, int64(len(r.Lits))-1)
	}
	return nil
}

func isPlain(t api.Table, sub int) bool { return isScalar(t, sub) && rangeOf(t, t.Subs[sub].T) != nil }

// named returns the entity of a name; nil: there is none.
func named(t api.Table, e api.Expr) *api.Ent {
	if (e.Kind == api.ExName || e.Kind == api.ExSelect) && e.Ent >= 0 && e.Ent < len(t.Ents) {
		return &t.Ents[e.Ent]
	}
	return nil
}

func among(n *api.Ent, l ...api.EntKind) bool { return n != nil && slices.Contains(l, n.Kind) }

func isMark(t api.Table, e api.Expr) bool { return among(named(t, e), api.EnType, api.EnSub) }

func isPlainMark(t api.Table, e api.Expr) bool { return isMark(t, e) && isPlain(t, named(t, e).Sub) }

func all(t api.Table, l []api.Expr) bool {
	return !slices.ContainsFunc(l, func(e api.Expr) bool { return !isStatic(t, e) })
}

// arrayIndex returns the Index of an array whose bounds are static; -1: it is none.
func arrayIndex(t api.Table, e api.Expr) int {
	n := named(t, e)
	if !among(n, api.EnType, api.EnSub, api.EnVar, api.EnConst, api.EnParam) || kindOf(t, n.Sub) != api.TyArray {
		return -1
	}
	index := t.Types[t.Subs[n.Sub].T].Index
	if isPlain(t, index) && t.Subs[index].Lo <= t.Subs[index].Hi {
		return index
	}
	return -1
}

// isShift reports whether a call is one of Pos, Val, Succ or Pred.
func isShift(t api.Table, e api.Expr) bool {
	f := e.L[0]
	return f.Kind == api.ExAttr && slices.Contains([]string{"Pos", "Val", "Succ", "Pred"}, f.S) && len(f.L) == 1 && isPlainMark(t, f.L[0])
}

func isConversion(t api.Table, e api.Expr) bool {
	return e.Ent >= 0 && e.Ent < len(t.Ents) && among(&t.Ents[e.Ent], api.EnType, api.EnSub) && isPlain(t, t.Ents[e.Ent].Sub)
}

func isStatic(t api.Table, e api.Expr) bool {
	if rangeOf(t, e.T) == nil {
		return false
	}
	n := named(t, e)
	switch e.Kind {
	case api.ExInt:
		return true
	case api.ExName, api.ExSelect:
		return among(n, api.EnNumber, api.EnLiteral) || among(n, api.EnConst) && n.Static
	case api.ExAttr:
		scalar := len(e.L) == 1 && (e.S == "First" || e.S == "Last") && isPlainMark(t, e.L[0])
		return scalar || len(e.L) == 1 && slices.Contains([]string{"First", "Last", "Length"}, e.S) && arrayIndex(t, e.L[0]) >= 0
	case api.ExCall:
		return len(e.L) == 1 && len(e.A) == 1 && isStatic(t, e.A[0].E) && (isShift(t, e) || isConversion(t, e))
	case api.ExQual:
		return len(e.L) == 2 && isPlainMark(t, e.L[0]) && isStatic(t, e.L[1])
	case api.ExIf:
		return len(e.L) == 3 && all(t, e.L)
	case api.ExMonadic:
		return slices.Contains([]api.Operator{api.OperPos, api.OperNeg, api.OperAbs, api.OperNot}, e.Oper) && len(e.L) == 1 && all(t, e.L)
	case api.ExDyadic:
		return e.Oper >= api.OperAdd && e.Oper <= api.OperElse && len(e.L) == 2 && all(t, e.L)
	case api.ExIn, api.ExNotIn:
		return len(e.L) == 2 && isStatic(t, e.L[0]) && isPlainMark(t, e.L[1]) || len(e.L) == 3 && all(t, e.L)
	}
	return false
}

// between returns a value from lo to hi; nil, if it is outside, or there is none.
func between(v, lo, hi *big.Int) *big.Int {
	if v == nil || v.Cmp(lo) < 0 || v.Cmp(hi) > 0 {
		return nil
	}
	return v
}

// within returns a value in the range of a type; nil, if it is outside, or there is none.
func within(t api.Table, ty int, v *big.Int) *big.Int {
	b := rangeOf(t, ty)
	return between(v, b[0], b[1])
}

func inSub(t api.Table, sub int, v *big.Int) *big.Int {
	return between(v, big.NewInt(t.Subs[sub].Lo), big.NewInt(t.Subs[sub].Hi))
}

// valueOf returns the value of a static expression; nil: it has none.
func valueOf(t api.Table, e api.Expr) *big.Int { return within(t, e.T, result(t, e)) }

func result(t api.Table, e api.Expr) *big.Int {
	var part func(i int) *big.Int
	part = func(i int) *big.Int { return valueOf(t, e.L[i]) }
	switch e.Kind {
	case api.ExInt:
		return big.NewInt(e.N)
	case api.ExName, api.ExSelect:
		return big.NewInt(named(t, e).Value)
	case api.ExAttr:
		return attribute(t, e)
	case api.ExCall:
		return called(t, e, valueOf(t, e.A[0].E))
	case api.ExQual:
		return inSub(t, named(t, e.L[0]).Sub, part(1))
	case api.ExIf:
		switch c := part(0); {
		case c == nil:
			return nil
		case c.Cmp(big.NewInt(1)) == 0:
			return part(1)
		}
		return part(2)
	case api.ExMonadic:
		return monadic(e.Oper, part(0))
	case api.ExDyadic:
		return dyadic(e.Oper, part(0), func() *big.Int { return part(1) })
	}
	v := part(0)
	if v == nil {
		return nil
	}
	var in bool
	if len(e.L) == 2 {
		in = inSub(t, named(t, e.L[1]).Sub, v) != nil
	} else {
		lo, hi := part(1), part(2)
		if lo == nil || hi == nil {
			return nil
		}
		in = between(v, lo, hi) != nil
	}
	return truth(in == (e.Kind == api.ExIn))
}

func attribute(t api.Table, e api.Expr) *big.Int {
	sub := arrayIndex(t, e.L[0])
	if sub < 0 {
		sub = named(t, e.L[0]).Sub
	}
	lo, hi := big.NewInt(t.Subs[sub].Lo), big.NewInt(t.Subs[sub].Hi)
	switch e.S {
	case "First":
		return lo
	case "Last":
		return hi
	}
	n := new(big.Int).Sub(hi, lo)
	return n.Add(n, big.NewInt(1))
}

func called(t api.Table, e api.Expr, v *big.Int) *big.Int {
	if v == nil {
		return nil
	}
	if !isShift(t, e) {
		return inSub(t, t.Ents[e.Ent].Sub, v)
	}
	ty := t.Subs[named(t, e.L[0].L[0]).Sub].T
	switch e.L[0].S {
	case "Val":
		return within(t, ty, v)
	case "Succ":
		return within(t, ty, new(big.Int).Add(v, big.NewInt(1)))
	case "Pred":
		return within(t, ty, new(big.Int).Sub(v, big.NewInt(1)))
	}
	return v
}

func truth(is bool) *big.Int {
	if is {
		return big.NewInt(1)
	}
	return big.NewInt(0)
}

func monadic(op api.Operator, a *big.Int) *big.Int {
	if a == nil {
		return nil
	}
	switch op {
	case api.OperNeg:
		return new(big.Int).Neg(a)
	case api.OperAbs:
		return new(big.Int).Abs(a)
	case api.OperNot:
		return truth(a.Sign() == 0)
	}
	return a
}

// dyadic returns the value for two operands, the second one of which is worked out when it is needed.
func dyadic(op api.Operator, a *big.Int, right func() *big.Int) *big.Int {
	switch {
	case a == nil:
		return nil
	case op == api.OperThen && a.Sign() == 0:
		return big.NewInt(0)
	case op == api.OperElse && a.Sign() != 0:
		return big.NewInt(1)
	}
	b := right()
	if b == nil {
		return nil
	}
	one := big.NewInt(1)
	switch c := a.Cmp(b); op {
	case api.OperEq:
		return truth(c == 0)
	case api.OperNe, api.OperXor:
		return truth(c != 0)
	case api.OperLt:
		return truth(c < 0)
	case api.OperLe:
		return truth(c <= 0)
	case api.OperGt:
		return truth(c > 0)
	case api.OperGe:
		return truth(c >= 0)
	case api.OperAnd:
		return truth(a.Cmp(one) == 0 && b.Cmp(one) == 0)
	case api.OperOr:
		return truth(a.Sign() != 0 || b.Sign() != 0)
	case api.OperThen, api.OperElse:
		return b
	}
	return computed(op, a, b)
}

func computed(op api.Operator, a, b *big.Int) *big.Int {
	v := new(big.Int)
	switch op {
	case api.OperAdd:
		return v.Add(a, b)
	case api.OperSub:
		return v.Sub(a, b)
	case api.OperMul:
		return v.Mul(a, b)
	}
	if b.Sign() == 0 {
		return nil
	}
	switch op {
	case api.OperDiv:
		return v.Quo(a, b)
	case api.OperRem:
		return v.Rem(a, b)
	}
	// The quotient, rounded down: with a divisor above 0, that of Euclid's division.
	if b.Sign() < 0 {
		a, b = new(big.Int).Neg(a), new(big.Int).Neg(b)
		return v.Neg(v.Sub(a, new(big.Int).Mul(b, new(big.Int).Div(a, b))))
	}
	return v.Sub(a, new(big.Int).Mul(b, new(big.Int).Div(a, b)))
}

// found returns what Value must return.
func found(t api.Table, e api.Expr) (int64, api.Errno) {
	if !isStatic(t, e) {
		return 0, api.ErrStatic
	}
	v := valueOf(t, e)
	if v == nil {
		return 0, api.ErrValue
	}
	return v.Int64(), api.OK
}

// ranged returns what Range must return.
func ranged(t api.Table, sub int, lo, hi api.Expr) (api.Bounds, api.Errno) {
	a, e := found(t, lo)
	b, f := found(t, hi)
	switch {
	case e != api.OK:
		return api.Bounds{}, e
	case f != api.OK:
		return api.Bounds{}, f
	case sub != -1 && a <= b && !(isMember(t, sub, a) && isMember(t, sub, b)):
		return api.Bounds{}, api.ErrRange
	}
	return api.Bounds{Lo: a, Hi: b}, api.OK
}

func isMember(t api.Table, sub int, v int64) bool {
	return isScalar(t, sub) && t.Subs[sub].Lo <= v && v <= t.Subs[sub].Hi
}

// chosen returns what Choices must return.
func chosen(t api.Table, sub int, l []api.Choice) (b []api.Bounds, others bool, e api.Errno) {
	for _, c := range l {
		var x api.Bounds
		switch {
		case c.Kind == api.ChOthers:
			others = true
			continue
		case c.Kind == api.ChExpr && len(c.L) == 1 && isMark(t, c.L[0]):
			of := named(t, c.L[0]).Sub
			if !isPlain(t, of) {
				return nil, false, api.ErrStatic
			}
			x = api.Bounds{Lo: t.Subs[of].Lo, Hi: t.Subs[of].Hi}
		case c.Kind == api.ChExpr && len(c.L) == 1:
			v, e := found(t, c.L[0])
			if e != api.OK {
				return nil, false, e
			}
			x = api.Bounds{Lo: v, Hi: v}
		case c.Kind == api.ChRange && len(c.L) == 2:
			if x, e = ranged(t, -1, c.L[0], c.L[1]); e != api.OK {
				return nil, false, e
			}
		default:
			return nil, false, api.ErrStatic
		}
		if x.Lo > x.Hi {
			continue
		}
		if !isMember(t, sub, x.Lo) || !isMember(t, sub, x.Hi) {
			return nil, false, api.ErrRange
		}
		b = append(b, x)
	}
	return b, others, api.OK
}

// covered returns what Cover must return, for a subtype of few values.
func covered(t api.Table, sub int, l [][]api.Choice) api.Errno {
	counts := map[int64]int{}
	open := false
	for _, c := range l {
		b, others, e := chosen(t, sub, c)
		if e != api.OK {
			return e
		}
		open = open || others
		for _, x := range b {
			for v := x.Lo; ; v++ {
				counts[v]++
				if v == x.Hi {
					break
				}
			}
		}
	}
	for i, c := range l {
		for _, x := range c {
			if x.Kind == api.ChOthers && (i != len(l)-1 || len(c) != 1) {
				return api.ErrCover
			}
		}
	}
	for _, n := range counts {
		if n > 1 {
			return api.ErrCover
		}
	}
	if !open && isScalar(t, sub) {
		for v := t.Subs[sub].Lo; v <= t.Subs[sub].Hi; v++ {
			if counts[v] == 0 {
				return api.ErrCover
			}
		}
	}
	return api.OK
}
