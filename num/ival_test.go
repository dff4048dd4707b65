package num_test

import (
	"math"
	"testing"

	"ceiling/api"
	"ceiling/num"
)

// small returns all intervals with bounds from -n to n, empty ones among them.
func small(n int64) []api.Ival {
	var out []api.Ival
	for lo := -n; lo <= n; lo++ {
		for hi := -n; hi <= n; hi++ {
			out = append(out, iv(lo, hi))
		}
	}
	return out
}

// large returns the intervals between the edges, and an empty one for each two of them.
func large() []api.Ival {
	var out []api.Ival
	for _, lo := range edges {
		for _, hi := range edges {
			out = append(out, iv(lo, hi))
		}
	}
	return out
}

// P1.1: the chapter's examples of intervals.
func TestExamplesOfIntervals(t *testing.T) {
	for i, x := range []struct {
		op         api.COp
		a, b, want api.Ival
	}{
		{api.CMul, iv(-2, 3), iv(4, 5), iv(-10, 15)},
		{api.CDiv, iv(-7, 7), iv(-2, 2), iv(-7, 7)}, {api.CRem, iv(-7, 100), iv(10, 10), iv(-7, 9)}, {api.CMod, iv(-7, 7), iv(3, 3), iv(0, 2)},
		{api.CLt, iv(1, 3), iv(3, 9), iv(0, 1)}, {api.CLt, iv(1, 3), iv(4, 9), iv(1, 1)}, {api.CAnd, iv(0, 1), iv(1, 1), iv(0, 1)},
	} {
		if r := num.Range(x.op, x.a, x.b); r != x.want {
			t.Error(i, r)
		}
	}
	if r := num.Widen(iv(0, 4), iv(0, 5), iv(0, 100)); r != iv(0, 100) {
		t.Error(r)
	}
	if r := num.Widen(iv(0, 4), iv(0, 5), iv(0, 4)); r != iv(0, math.MaxInt64) {
		t.Error(r)
	}
}

// P1.1: what the chapter says of the bounds of 64 bits.
func TestRangeAtBounds(t *testing.T) {
	const low, high = math.MinInt64, math.MaxInt64
	for i, x := range []struct {
		op         api.COp
		a, b, want api.Ival
	}{
		{api.CAdd, iv(0, high), iv(0, 0), iv(0, high)}, {api.CAdd, iv(0, high), iv(0, 1), full}, {api.CAdd, iv(low, 0), iv(-1, 0), full}, {api.CAdd, full, full, full},
		{api.CSub, iv(low, 0), iv(0, 1), full}, {api.CSub, iv(-1, -1), iv(low, low), iv(high, high)}, {api.CSub, iv(0, 0), iv(low, low), full},
		{api.CMul, iv(low, low), iv(-1, -1), full}, {api.CMul, iv(-1, -1), iv(low, low), full}, {api.CMul, iv(low, high), iv(1, 1), full}, {api.CMul, iv(low, low), iv(1, 1), iv(low, low)}, {api.CMul, iv(low, low), iv(0, 1), iv(low, 0)}, {api.CMul, full, iv(0, 0), iv(0, 0)}, {api.CMul, iv(0, 0), full, iv(0, 0)},
		{api.CDiv, iv(low, low), iv(-1, -1), full}, {api.CDiv, iv(low, 0), iv(-2, -2), iv(0, 1<<62)}, {api.CDiv, iv(low+1, 1), iv(-1, -1), iv(-1, high)}, {api.CDiv, full, iv(0, 0), none}, {api.CDiv, iv(low, low), iv(0, 2), iv(low, -1<<62)},
		{api.CRem, full, full, iv(-high, high)}, {api.CRem, full, iv(low, low), iv(-high, high)}, {api.CRem, full, iv(0, 0), none}, {api.CRem, iv(5, 9), iv(-1, 1), iv(0, 0)},
		{api.CMod, full, iv(low, low), iv(-high, 0)}, {api.CMod, full, iv(high, high), iv(0, high-1)}, {api.CMod, full, full, iv(-high, high-1)}, {api.CMod, full, iv(0, 0), none}, {api.CMod, full, iv(-1, -1), iv(0, 0)}, {api.CMod, iv(-3, 0), iv(low, -1), iv(-3, 0)}, {api.CMod, iv(-3, 1), iv(low, -1), iv(-high, 0)},
		{api.CNeg, iv(low, 0), full, full}, {api.CNeg, iv(low+1, 0), full, iv(0, high)}, {api.CAbs, iv(low, low), full, full}, {api.CAbs, iv(low+1, 5), full, iv(0, high)}, {api.CNot, iv(low+1, 0), full, full}, {api.CNot, iv(low+2, 0), full, iv(1, high)}, {api.CNot, iv(high, high), full, iv(low+2, low+2)},
		{api.CEq, full, iv(3, 3), iv(0, 1)}, {api.CNe, full, iv(3, 3), iv(0, 1)}, {api.CLt, full, iv(low, low), iv(0, 0)}, {api.CGe, full, iv(low, low), iv(1, 1)}, {api.CLe, full, iv(high, high), iv(1, 1)}, {api.CGt, iv(low, high-1), iv(high, high), iv(0, 0)},
		{api.CAnd, iv(0, 0), iv(2, 2), full}, {api.COr, iv(0, 1), iv(-1, 0), full}, {api.CXor, iv(1, 1), iv(1, 1), iv(0, 0)}, {api.CXor, iv(5, 4), iv(2, 2), none}, {api.NoCOp, full, full, none}, {api.CNot + 1, full, full, none},
	} {
		if r := num.Range(x.op, x.a, x.b); r != x.want {
			t.Error(i, r, "not", x.want)
		}
	}
}

// P1.1: Range for all small intervals; and P1.3: all values of Wrap lie in it.
func TestRangeOfSmall(t *testing.T) {
	for _, op := range operators() {
		for _, a := range small(4) {
			for _, b := range small(4) {
				r := num.Range(op, a, b)
				if want := ranged(op, a, b); r != want {
					t.Fatal(op, a, b, r, "not", want)
				}
				sound(t, op, a, b, r, nil)
			}
		}
	}
}

// P1.1 and P1.3: the same for large intervals, with the edges as operands.
func TestRangeOfLarge(t *testing.T) {
	var few []api.Ival
	for i, a := range large() {
		if i%3 == 0 || a.Lo == a.Hi {
			few = append(few, a)
		}
	}
	for _, op := range operators() {
		for _, a := range few {
			for i, b := range few {
				r := num.Range(op, a, b)
				if want := ranged(op, a, b); r != want {
					t.Fatal(op, a, b, r, "not", want)
				}
				if i%7 == 0 {
					sound(t, op, a, b, r, edges)
				}
			}
		}
	}
}

func sound(t *testing.T, op api.COp, a, b, r api.Ival, some []int64) {
	for _, x := range members(a, some) {
		for _, y := range members(b, some) {
			if v, ok := num.Wrap(op, x, y); ok && (v < r.Lo || v > r.Hi) {
				t.Fatal("not sound", op, a, b, r, x, y, v)
			}
		}
	}
}

// P1.1: Has and Lies, by the integers of small intervals.
func TestHasLies(t *testing.T) {
	for _, a := range small(3) {
		for v := int64(-5); v <= 5; v++ {
			if num.Has(a, v) != (a.Lo <= v && v <= a.Hi) {
				t.Error(a, v)
			}
		}
		for _, b := range small(3) {
			all := true
			for _, v := range members(a, nil) {
				all = all && b.Lo <= v && v <= b.Hi
			}
			if num.Lies(a, b) != all {
				t.Error(a, b)
			}
		}
	}
	if !num.Has(full, math.MinInt64) || !num.Has(full, math.MaxInt64) || !num.Lies(full, full) || num.Lies(full, iv(math.MinInt64, 0)) || num.Has(iv(math.MaxInt64, math.MinInt64), 0) {
		t.Error("at the bounds")
	}
}

// P1.1 and P1.4: Join is the hull of both, Meet what is in both.
func TestJoinMeet(t *testing.T) {
	pairs := func(l []api.Ival) {
		for _, a := range l {
			for _, b := range l {
				j, m := num.Join(a, b), num.Meet(a, b)
				if !num.Lies(a, j) || !num.Lies(b, j) || !num.Lies(m, a) || !num.Lies(m, b) {
					t.Fatal("not around, or not inside", a, b, j, m)
				}
				if want := joined(a, b); j != want {
					t.Fatal("Join", a, b, j, want)
				}
				if want := met(a, b); m != want {
					t.Fatal("Meet", a, b, m, want)
				}
			}
		}
	}
	pairs(small(4))
	pairs(large())
}

// joined is the hull, from the bounds of those intervals that have integers.
func joined(a, b api.Ival) api.Ival {
	out := none
	for _, x := range []api.Ival{a, b} {
		if x.Lo <= x.Hi {
			if out == none {
				out = x
			}
			out = iv(min(out.Lo, x.Lo), max(out.Hi, x.Hi))
		}
	}
	return out
}

func met(a, b api.Ival) api.Ival {
	out := none
	for _, v := range limits([]api.Ival{a, b}) {
		if a.Lo <= v && v <= a.Hi && b.Lo <= v && v <= b.Hi {
			out = joined(out, iv(v, v))
		}
	}
	return out
}

// P1.1 and P1.4: Widen, also with an empty most, whose bounds count all the same.
func TestWiden(t *testing.T) {
	const low, high = math.MinInt64, math.MaxInt64
	for i, x := range []struct{ a, b, most, want api.Ival }{
		{iv(0, 4), iv(-1, 3), iv(0, 100), iv(low, 4)}, {iv(0, 4), iv(-1, 3), iv(-1, 100), iv(-1, 4)}, {iv(0, 4), iv(0, 4), iv(1, 2), iv(0, 4)}, {iv(0, 4), iv(1, 2), iv(-9, 9), iv(0, 4)},
		{iv(1, 0), iv(2, 3), iv(0, 9), iv(2, 3)}, {iv(2, 3), iv(9, 1), iv(0, 9), iv(2, 3)}, {iv(5, 4), iv(9, 1), iv(0, 9), none},
		{iv(0, 4), iv(-5, 9), iv(-3, 8), full}, {iv(0, 4), iv(-5, 9), iv(-5, 9), iv(-5, 9)}, {iv(0, 4), iv(-5, 9), iv(-9, -8), iv(-9, high)}, {iv(5, 5), iv(2, 8), iv(1, 0), iv(1, high)}, {iv(5, 5), iv(2, 8), iv(9, 10), iv(low, 10)}, {full, iv(0, 0), iv(0, 0), full},
	} {
		if r := num.Widen(x.a, x.b, x.most); r != x.want {
			t.Error(i, r)
		}
	}
	l := small(2)
	for _, a := range l {
		for _, b := range l {
			for _, most := range l {
				if r := num.Widen(a, b, most); !num.Lies(a, r) || !num.Lies(b, r) {
					t.Fatal(a, b, most, r)
				}
			}
		}
	}
}

// P1.4: a sequence of intervals, each of which is Widen of the one before, changes at most 5 times; and this one does.
func TestWidenEnds(t *testing.T) {
	a, most, changes := none, iv(-10, 10), 0
	for _, b := range []api.Ival{iv(0, 0), iv(0, 1), iv(-1, 0), iv(0, 11), iv(-11, 0), iv(-12, 12), full} {
		next := num.Widen(a, b, most)
		if next != a {
			changes++
		}
		a = next
	}
	if changes != 5 || a != full {
		t.Error(changes, a)
	}
	seed := uint64(1)
	draw := func(n int64) int64 {
		seed = seed*6364136223846793005 + 1442695040888963407
		return int64(seed>>33) % n
	}
	for range 2000 {
		most := iv(draw(41)-20, draw(41)-20)
		a, changes := none, 0
		for k := int64(1); k < 60; k++ {
			next := num.Widen(a, iv(draw(2*k+1)-k, draw(2*k+1)-k), most)
			if next != a {
				changes++
			}
			a = next
		}
		if changes > 5 {
			t.Fatal(most, changes)
		}
	}
}
