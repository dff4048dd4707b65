package static_test

import (
	"math/big"
	"testing"

	"ceiling/api"
)

// edges are values at which sums, products and quotients change.
var edges = []int64{
	-1 << 62, -1<<62 + 1, -1 << 61, -1<<61 - 1, -1 << 31, -1<<31 - 1, -1<<31 + 1, -3037000500, -3037000499, -65536, -7, -3, -2, -1, 0,
	1, 2, 3, 5, 7, 10, 65536, 1<<31 - 1, 1 << 31, 3037000499, 3037000500, 1<<61 - 1, 1 << 61, 1<<61 + 1, 1<<62 - 1, 1 << 62,
}

// P7.1: all operators with two operands at the edges, of universal type, of Integer and of an enumeration.
func TestDyadic(t *testing.T) {
	tab := world()
	for op := api.OperAdd; op <= api.OperElse; op++ {
		for _, a := range edges {
			for _, b := range edges {
				for _, ty := range []int{univ, integer, color} {
					x := api.Expr{Kind: api.ExDyadic, Oper: op, L: []api.Expr{lit(a), lit(b)}, T: ty}
					checkValue(t, tab, x, within(tab, ty, dyadic(op, big.NewInt(a), func() *big.Int { return big.NewInt(b) })))
				}
			}
		}
	}
}

// P7.1: all operators with one operand at the edges.
func TestMonadic(t *testing.T) {
	tab := world()
	for op := api.OperPos; op <= api.OperNot; op++ {
		for _, a := range edges {
			for _, ty := range []int{univ, integer, color} {
				x := api.Expr{Kind: api.ExMonadic, Oper: op, L: []api.Expr{lit(a)}, T: ty}
				checkValue(t, tab, x, within(tab, ty, monadic(op, big.NewInt(a))))
			}
		}
	}
}

// checkValue checks the value of a static expression; nil: it has none.
func checkValue(t *testing.T, tab api.Table, x api.Expr, want *big.Int) {
	t.Helper()
	if want == nil {
		gives(t, x, tab, x, 0, api.ErrValue)
	} else {
		gives(t, x, tab, x, want.Int64(), api.OK)
	}
}

// P7.1: results of operators, as the chapter tells them.
func TestOperators(t *testing.T) {
	outcomes(t, []outcome{
		{"+ n", 3, api.OK}, {"- n", -3, api.OK}, {"abs (-4)", 4, api.OK}, {"abs 4", 4, api.OK}, {"abs 0", 0, api.OK}, {"not True", 0, api.OK}, {"not False", 1, api.OK},
		{"not 5", 0, api.OK}, {"not (-1)", 0, api.OK},
		{"n + 4", 7, api.OK}, {"n - 4", -1, api.OK}, {"n * 4", 12, api.OK}, {"7 / 2", 3, api.OK}, {"(-7) / 2", -3, api.OK}, {"(-7) / (-2)", 3, api.OK},
		{"7 / 0", 0, api.ErrValue}, {"0 / 0", 0, api.ErrValue},
		{"7 rem 2", 1, api.OK}, {"(-7) rem 2", -1, api.OK}, {"7 rem (-2)", 1, api.OK}, {"(-7) rem (-2)", -1, api.OK}, {"6 rem (-3)", 0, api.OK}, {"7 rem 0", 0, api.ErrValue},
		{"7 mod 2", 1, api.OK}, {"(-7) mod 2", 1, api.OK}, {"7 mod (-2)", -1, api.OK}, {"(-7) mod (-2)", -1, api.OK}, {"6 mod (-3)", 0, api.OK},
		{"(-6) mod 3", 0, api.OK}, {"7 mod 0", 0, api.ErrValue},
		{"n = 3", 1, api.OK}, {"n = 4", 0, api.OK}, {"n /= 3", 0, api.OK}, {"n /= 4", 1, api.OK}, {"Red < Green", 1, api.OK}, {"Red < Red", 0, api.OK},
		{"n <= 3", 1, api.OK}, {"n <= 2", 0, api.OK},
		{"n > 2", 1, api.OK}, {"n > 3", 0, api.OK}, {"n >= 3", 1, api.OK}, {"n >= 4", 0, api.OK},
		{"True and True", 1, api.OK}, {"True and False", 0, api.OK}, {"False and True", 0, api.OK}, {"2 and 1", 0, api.OK}, {"1 and 2", 0, api.OK},
		{"False or False", 0, api.OK}, {"False or True", 1, api.OK}, {"0 or 5", 1, api.OK}, {"5 or 0", 1, api.OK},
		{"True xor False", 1, api.OK}, {"True xor True", 0, api.OK}, {"5 xor 6", 1, api.OK}, {"5 xor 5", 0, api.OK},
		{"most + most", 0, api.ErrValue}, {"(-most) - most", 0, api.ErrValue}, {"most - most", 0, api.OK}, {"most - (-most)", 0, api.ErrValue},
		{"k * k", 0, api.ErrValue}, {"most * 4", 0, api.ErrValue}, {"most * (-1)", -1 << 62, api.OK}, {"2 * (most / 2)", 1 << 62, api.OK},
		{"(-2147483645) - n", -2147483648, api.OK}, {"(-2147483646) - n", 0, api.ErrValue}, {"Integer'Last + 1 - 1", 0, api.ErrValue},
		{"2147483647 + 1 - 1", 2147483647, api.OK},
	})
}
