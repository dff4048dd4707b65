package static_test

import (
	"math/big"
	"testing"

	"ceiling/api"
	"ceiling/static"
)

// P7.3: a value that Value returns lies in the range of the type, and only a static expression has one.
func TestValuesLieInRange(t *testing.T) {
	some := 0
	random(5, 30000, 5, func(m *maker, x api.Expr) {
		v, e := static.Value(m.t, x)
		if static.Is(m.t, x) != (e != api.ErrStatic) || e != api.OK && v != 0 {
			t.Fatal(x, v, e)
		}
		if e != api.OK {
			return
		}
		some++
		b := rangeOf(m.t, x.T)
		if b == nil || big.NewInt(v).Cmp(b[0]) < 0 || big.NewInt(v).Cmp(b[1]) > 0 {
			t.Fatal(x, v)
		}
	})
	if some < 5000 {
		t.Error(some)
	}
}

// needed returns the parts of an expression that must be static.
func needed(x api.Expr) []api.Expr {
	switch x.Kind {
	case api.ExCall:
		return []api.Expr{x.A[0].E}
	case api.ExQual:
		return x.L[1:]
	case api.ExIf, api.ExMonadic, api.ExDyadic:
		return x.L
	case api.ExIn, api.ExNotIn:
		if len(x.L) == 2 {
			return x.L[:1]
		}
		return x.L
	}
	return nil
}

// P7.3: the parts of a static expression that must be static are.
func TestPartsAreStatic(t *testing.T) {
	parts := 0
	random(6, 30000, 5, func(m *maker, x api.Expr) {
		if !static.Is(m.t, x) {
			return
		}
		for _, p := range needed(x) {
			parts++
			if !static.Is(m.t, p) {
				t.Fatal(x, p)
			}
		}
	})
	if parts < 5000 {
		t.Error(parts)
	}
}

// P7.3: if Cover accepts lists, every value of the subtype is in exactly one of them, or in others.
func TestCoverIsExact(t *testing.T) {
	values, open := 0, 0
	covers(7, 60000, func(m *maker, sub int, l [][]api.Choice) {
		if static.Cover(m.t, sub, l) != api.OK || !isScalar(m.t, sub) {
			return
		}
		for v := m.t.Subs[sub].Lo; v <= m.t.Subs[sub].Hi; v++ {
			in, rest := 0, false
			for _, c := range l {
				b, others, e := static.Choices(m.t, sub, c)
				if e != api.OK {
					t.Fatal(l, e)
				}
				rest = rest || others
				for _, x := range b {
					if x.Lo <= v && v <= x.Hi {
						in++
					}
				}
			}
			if in > 1 || in == 0 && !rest {
				t.Fatal(sub, l, v)
			}
			if values++; in == 0 {
				open++
			}
		}
	})
	if values < 10000 || open < 1000 {
		t.Error(values, open)
	}
}
