package num_test

import (
	"math"
	"testing"

	"ceiling/api"
	"ceiling/num"
)

// P1.1: the base range.
func TestIn(t *testing.T) {
	for _, v := range edges {
		if num.In(v) != inBase(v) {
			t.Error(v)
		}
	}
}

// P1.1: the chapter's examples of Apply and Wrap.
func TestExamplesOfValues(t *testing.T) {
	type call struct {
		op      api.COp
		a, b, v int64
		ok      bool
	}
	for i, x := range []call{
		{api.CMod, -7, 2, 1, true}, {api.CAdd, 2147483647, 1, 0, false},
		{api.CDiv, -7, 2, -3, true}, {api.CRem, -7, 2, -1, true}, {api.CMod, 7, -2, -1, true},
		{api.CDiv, -2147483648, -1, 0, false}, {api.CRem, -2147483648, -1, 0, true}, {api.CDiv, 1, 0, 0, false}, {api.CAnd, 1, 2, 0, false},
	} {
		if v, ok := num.Apply(x.op, x.a, x.b); v != x.v || ok != x.ok {
			t.Error("Apply", i, v, ok)
		}
	}
	for i, x := range []call{
		{api.CAdd, math.MaxInt64, 1, math.MinInt64, true}, {api.CAnd, 6, 3, 2, true}, {api.CNot, 5, 0, -4, true},
		{api.CDiv, math.MinInt64, -1, math.MinInt64, true}, {api.CRem, math.MinInt64, -1, 0, true}, {api.CMod, math.MinInt64, -1, 0, true},
		{api.CMod, 5, 0, 0, false}, {api.NoCOp, 1, 1, 0, false},
	} {
		if v, ok := num.Wrap(x.op, x.a, x.b); v != x.v || ok != x.ok {
			t.Error("Wrap", i, v, ok)
		}
	}
}

// P1.1 and P1.2: the values at all edges, for operators and for numbers that are none.
func TestValues(t *testing.T) {
	for _, op := range operators() {
		for _, a := range edges {
			for _, b := range edges {
				v, ok := num.Apply(op, a, b)
				if w, has := applied(op, a, b); v != w || ok != has {
					t.Fatal("Apply", op, a, b, v, ok, "not", w, has)
				}
				w, has := num.Wrap(op, a, b)
				if x, exists := wrapped(op, a, b); w != x || has != exists {
					t.Fatal("Wrap", op, a, b, w, has, "not", x, exists)
				}
				if ok && (!num.In(v) || !has || v != w) {
					t.Fatal("Apply and Wrap differ", op, a, b, v, w)
				}
			}
		}
	}
}

// P1.1 and P1.2: all small operands.
func TestSmallValues(t *testing.T) {
	for _, op := range operators() {
		for a := int64(-20); a <= 20; a++ {
			for b := int64(-20); b <= 20; b++ {
				v, ok := num.Apply(op, a, b)
				if w, has := applied(op, a, b); v != w || ok != has {
					t.Fatal("Apply", op, a, b, v, ok)
				}
				w, has := num.Wrap(op, a, b)
				if x, exists := wrapped(op, a, b); w != x || has != exists {
					t.Fatal("Wrap", op, a, b, w, has)
				}
				if ok && (v != w || !has) {
					t.Fatal("Apply and Wrap differ", op, a, b)
				}
			}
		}
	}
}

// P1.1: an operator with one operand ignores the second one, even one outside the base range.
func TestIgnored(t *testing.T) {
	for _, op := range []api.COp{api.CNeg, api.CAbs, api.CNot} {
		for _, a := range edges {
			v, ok := num.Apply(op, a, 0)
			w, has := num.Wrap(op, a, 0)
			r := num.Range(op, iv(a, a), iv(0, 0))
			for _, b := range edges {
				if x, yes := num.Apply(op, a, b); x != v || yes != ok {
					t.Error("Apply", op, a, b)
				}
				if x, yes := num.Wrap(op, a, b); x != w || yes != has {
					t.Error("Wrap", op, a, b)
				}
				if num.Range(op, iv(a, a), iv(b, 0)) != r {
					t.Error("Range", op, a, b)
				}
			}
		}
	}
}
