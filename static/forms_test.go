package static_test

import (
	"math"
	"runtime/debug"
	"testing"

	"ceiling/api"
	"ceiling/static"
)

func lit(n int64) api.Expr { return api.Expr{Kind: api.ExInt, N: n, Ent: -1} }

func of(ty int, x api.Expr) api.Expr {
	x.T = ty
	return x
}

func changed(x api.Expr, change func(x *api.Expr)) api.Expr {
	x = copied(x)
	change(&x)
	return x
}

// P7.1: the fields that the table of layer 3 does not name for a kind, and the types and entities that no rule names, are not looked at.
func TestFieldsNotLookedAt(t *testing.T) {
	tab := world()
	odd := []api.Expr{{Kind: api.ExNull, T: -1}, {}}
	fill := map[string]func(x *api.Expr){
		"Oper": func(x *api.Expr) { x.Oper = 77 }, "N": func(x *api.Expr) { x.N = math.MinInt64 }, "S": func(x *api.Expr) { x.S = "First" }, "L": func(x *api.Expr) { x.L = odd },
		"A": func(x *api.Expr) { x.A = []api.Assoc{{E: odd[0]}, {}} }, "Line": func(x *api.Expr) { x.Line = -9 }, "Ent": func(x *api.Expr) { x.Ent = number(t, tab, "i") },
		"no Ent": func(x *api.Expr) { x.Ent = math.MaxInt }, "T of L[0]": func(x *api.Expr) { x.L[0].T = -5 }, "T of L[1]": func(x *api.Expr) { x.L[1].T = vector },
		"Choices": func(x *api.Expr) { x.A[0].Choices = []api.Choice{{Kind: api.ChOthers, L: odd}} }, "Ent of L[0]": func(x *api.Expr) { x.L[0].Ent = -1 },
		"rest of L[0]": func(x *api.Expr) {
			x.L[0].L, x.L[0].A, x.L[0].N, x.L[0].Oper, x.L[0].S = odd, []api.Assoc{{}}, 5, 4, ""
		},
		"rest of an attribute": func(x *api.Expr) { x.L[0].A, x.L[0].N, x.L[0].Oper, x.L[0].T = []api.Assoc{{}}, 5, 4, -3 },
		"T of a mark":          func(x *api.Expr) { x.L[0].L[0].T = -4 },
	}
	for _, c := range []struct {
		text   string
		fields []string
	}{
		{"7", []string{"Oper", "S", "L", "A", "Line", "Ent", "no Ent"}},
		{"n", []string{"Oper", "N", "S", "L", "A", "Line"}},
		{"P.n", []string{"Oper", "N", "S", "L", "A", "Line", "T of L[0]", "Ent of L[0]", "rest of L[0]"}},
		{"Digit'Last", []string{"Oper", "N", "A", "Line", "Ent", "no Ent", "T of L[0]", "rest of L[0]"}},
		{"v'Length", []string{"Oper", "N", "A", "Line", "Ent", "no Ent", "T of L[0]", "rest of L[0]"}},
		{"Digit (n)", []string{"Oper", "N", "S", "Line", "Choices", "T of L[0]", "Ent of L[0]", "rest of L[0]"}},
		{"Color'Succ (Red)", []string{"Oper", "N", "S", "Line", "Ent", "no Ent", "Choices", "rest of an attribute", "T of a mark"}},
		{"Digit'(n)", []string{"Oper", "N", "S", "A", "Line", "Ent", "no Ent", "T of L[0]", "rest of L[0]"}},
		{"(if n = 3 then 1 else 2)", []string{"Oper", "N", "S", "A", "Line", "Ent", "no Ent"}},
		{"- n", []string{"N", "S", "A", "Line", "Ent", "no Ent"}},
		{"n + 1", []string{"N", "S", "A", "Line", "Ent", "no Ent"}},
		{"n in Digit", []string{"Oper", "N", "S", "A", "Line", "Ent", "no Ent", "T of L[1]"}},
		{"n not in 1 .. 2", []string{"Oper", "N", "S", "A", "Line", "Ent", "no Ent"}},
	} {
		x := parse(t, tab, c.text)
		want, e := static.Value(tab, x)
		if e != api.OK {
			t.Error(c.text, e)
		}
		for _, field := range c.fields {
			gives(t, c.text+": "+field, tab, changed(x, fill[field]), want, api.OK)
		}
	}
}

// P7.1: how many parts a static expression of each kind has.
func TestNumbersOfParts(t *testing.T) {
	tab := world()
	for _, c := range []struct {
		text string
		l    []int // how many elements L may have
	}{
		{"Digit'Last", []int{1}}, {"v'Length", []int{1}}, {"Digit (n)", []int{1}}, {"Color'Succ (Red)", []int{1}}, {"Digit'(n)", []int{2}},
		{"(if n = 3 then 1 else 2)", []int{3}}, {"- n", []int{1}}, {"n + 1", []int{2}}, {"n in Digit", []int{2}}, {"n in 1 .. 2", []int{3}},
	} {
		x := parse(t, tab, c.text)
		want, _ := static.Value(tab, x)
		if x.Kind == api.ExCall {
			gives(t, c.text, tab, changed(x, func(x *api.Expr) { x.A = nil }), 0, api.ErrStatic)
			gives(t, c.text, tab, changed(x, func(x *api.Expr) { x.A = append(x.A, x.A[0]) }), 0, api.ErrStatic)
		}
		for n := range 6 {
			y := changed(x, func(x *api.Expr) {
				for len(x.L) < n {
					x.L = append(x.L, lit(1))
				}
				x.L = x.L[:n]
			})
			if n == c.l[0] {
				gives(t, c.text, tab, y, want, api.OK)
			} else {
				gives(t, c.text, tab, y, 0, api.ErrStatic)
			}
		}
	}
	inner := parse(t, tab, "Color'Succ (Red)")
	gives(t, "two parts", tab, changed(inner, func(x *api.Expr) { x.L[0].L = append(x.L[0].L, lit(1)) }), 0, api.ErrStatic)
	gives(t, "no parts", tab, changed(inner, func(x *api.Expr) { x.L[0].L = nil }), 0, api.ErrStatic)
}

// P7.1: kinds and operators that are not those of the chapter.
func TestOtherKinds(t *testing.T) {
	tab := world()
	for kind := range api.ExprKind(20) {
		for n := range 4 {
			x := api.Expr{Kind: kind, Ent: number(t, tab, "n"), T: integer, Oper: api.OperAdd, L: []api.Expr{lit(1), lit(2), lit(3)}[:n]}
			some := kind == api.ExInt || kind == api.ExName || kind == api.ExSelect || n == 2 && kind == api.ExDyadic || n == 3 && (kind == api.ExIf || kind == api.ExIn || kind == api.ExNotIn)
			if static.Is(tab, x) != some {
				t.Error(kind, n, !some)
			}
		}
	}
	for op := range api.Operator(30) {
		x := api.Expr{Kind: api.ExMonadic, Oper: op, L: []api.Expr{lit(0)}, T: integer}
		if is := static.Is(tab, x); is != (op >= api.OperPos && op <= api.OperNot) {
			t.Error("monadic", op, is)
		}
		x = api.Expr{Kind: api.ExDyadic, Oper: op, L: []api.Expr{lit(1), lit(1)}, T: integer}
		if is := static.Is(tab, x); is != (op >= api.OperAdd && op <= api.OperElse) {
			t.Error("dyadic", op, is)
		}
	}
}

// P7.1: a call of an attribute is this attribute, whatever Ent is; if its mark is not plain, it may be a conversion.
func TestAttributeOrConversion(t *testing.T) {
	tab := world()
	digit := number(t, tab, "Digit")
	succ := changed(parse(t, tab, "Integer'Succ (9)"), func(x *api.Expr) { x.Ent = digit })
	gives(t, "an attribute", tab, succ, 10, api.OK)
	gives(t, "a conversion", tab, changed(succ, func(x *api.Expr) { x.L[0].S = "Next" }), 9, api.OK)
	gives(t, "a conversion", tab, changed(succ, func(x *api.Expr) { x.L[0].L[0].Ent = number(t, tab, "Whole") }), 9, api.OK)
	gives(t, "a conversion", tab, changed(succ, func(x *api.Expr) { x.L[0].L[0].Kind = api.ExDeref }), 9, api.OK)
	gives(t, "a conversion", tab, changed(succ, func(x *api.Expr) { x.L[0].L = nil }), 9, api.OK)
	gives(t, "a conversion", tab, changed(succ, func(x *api.Expr) { x.L[0].Kind = api.ExSelect }), 9, api.OK)
	gives(t, "neither", tab, changed(succ, func(x *api.Expr) { x.L[0].S, x.Ent = "Next", number(t, tab, "n") }), 0, api.ErrStatic)
	gives(t, "neither", tab, changed(succ, func(x *api.Expr) { x.L[0].S, x.Ent = "Next", number(t, tab, "Whole") }), 0, api.ErrStatic)
}

// P7.1: only a name or expanded name is a mark, or the name of an array.
func TestFormsOfMarks(t *testing.T) {
	tab := world()
	for _, text := range []string{"Digit'Last", "v'Length", "Vector'First", "Color'Succ (Red)", "Digit'(n)", "n in Digit"} {
		x := parse(t, tab, text)
		for kind := range api.ExprKind(20) {
			y := changed(x, func(x *api.Expr) {
				part := &x.L[0]
				switch x.Kind {
				case api.ExCall:
					part = &x.L[0].L[0]
				case api.ExIn:
					part = &x.L[1]
				}
				part.Kind = kind
			})
			if is := static.Is(tab, y); is != (kind == api.ExName || kind == api.ExSelect) {
				t.Error(text, kind, is)
			}
		}
	}
}

// P7.1: an expression has no value if that is outside the range of its type, at each place in a tree.
func TestTypesOfResults(t *testing.T) {
	tab := world()
	for _, text := range []string{"k", "Integer'Last", "v'Length", "Integer'Succ (5)", "Digit (5)", "Digit'(5)", "(if True then 5 else 6)", "+ 5", "2 + 3", "False or else 5"} {
		x := parse(t, tab, text)
		v, _ := static.Value(tab, of(univ, x))
		gives(t, text, tab, of(univ, x), v, api.OK)
		gives(t, text, tab, of(boolean, x), 0, api.ErrValue)
		gives(t, text, tab, of(vector, x), 0, api.ErrStatic)
		gives(t, text, tab, of(whole, x), 0, api.ErrStatic)
		gives(t, text, tab, of(-1, x), 0, api.ErrStatic)
		gives(t, text, tab, api.Expr{Kind: api.ExMonadic, Oper: api.OperNot, T: univ, L: []api.Expr{of(boolean, x)}}, 0, api.ErrValue)
		gives(t, text, tab, api.Expr{Kind: api.ExMonadic, Oper: api.OperNot, T: univ, L: []api.Expr{of(ref, x)}}, 0, api.ErrStatic)
	}
	tab.Types[boolean].Lits = []string{"False"}
	for _, text := range []string{"n in Digit", "3 = 3", "not False"} {
		gives(t, text, tab, of(boolean, parse(t, tab, text)), 0, api.ErrValue)
		gives(t, text, tab, of(univ, parse(t, tab, text)), 1, api.OK)
	}
}

// P7.1: tables that are not valid, with bounds of all sizes, and rows that do not exist.
func TestInvalidTables(t *testing.T) {
	tab := world()
	first, last, length := parse(t, tab, "Digit'First"), parse(t, tab, "Digit'Last"), of(univ, parse(t, tab, "v'Length"))
	bounds := func(sub int, lo, hi int64) { tab.Subs[sub].Lo, tab.Subs[sub].Hi = lo, hi }
	bounds(ofDigit, math.MinInt64, math.MaxInt64)
	gives(t, "First", tab, of(univ, first), 0, api.ErrValue)
	gives(t, "Last", tab, of(univ, last), 0, api.ErrValue)
	gives(t, "in", tab, parse(t, tab, "7 in Digit"), 1, api.OK)
	bounds(ofDigit, -1<<62, 1<<62)
	gives(t, "First", tab, of(univ, first), -1<<62, api.OK)
	gives(t, "Last", tab, of(univ, last), 1<<62, api.OK)
	gives(t, "First", tab, of(integer, first), 0, api.ErrValue)
	for _, c := range []struct {
		lo, hi, want int64
		why          api.Errno
	}{
		{1, 1 << 62, 1 << 62, api.OK}, {0, 1 << 62, 0, api.ErrValue}, {-1, 1<<62 - 2, 1 << 62, api.OK}, {-1, 1<<62 - 1, 0, api.ErrValue},
		{math.MinInt64, math.MaxInt64, 0, api.ErrValue}, {math.MinInt64, math.MinInt64 + 4, 5, api.OK}, {0, math.MaxInt64, 0, api.ErrValue},
		{math.MinInt64, -1, 0, api.ErrValue}, {math.MinInt64, 0, 0, api.ErrValue},
		{7, 7, 1, api.OK}, {7, 6, 0, api.ErrStatic}, {math.MaxInt64, math.MinInt64, 0, api.ErrStatic}, {-1, 99, 101, api.OK},
	} {
		bounds(ofSign, c.lo, c.hi)
		gives(t, c, tab, length, c.want, c.why)
	}
	bounds(ofSign, -1, 1)
	for _, n := range []int{-1, 13, math.MaxInt, math.MinInt} {
		tab := world()
		tab.Subs[ofDigit].T = n
		for _, text := range []string{"Digit'First", "Digit (3)", "Digit'(3)", "n in Digit", "Digit'Val (3)"} {
			gives(t, text, tab, of(univ, parse(t, world(), text)), 0, api.ErrStatic)
		}
	}
	for _, n := range []int{-1, 16, math.MaxInt, math.MinInt} {
		tab := world()
		tab.Types[vector].Index = n
		gives(t, "Index", tab, length, 0, api.ErrStatic)
		tab.Types[vector].Index, tab.Ents[number(t, tab, "v")].Sub, tab.Ents[number(t, tab, "Digit")].Sub = ofSign, n, n
		for _, text := range []string{"v'Length", "Digit'First", "Digit (3)", "Digit'(3)", "n in Digit", "Digit'Val (3)"} {
			gives(t, text, tab, of(univ, parse(t, world(), text)), 0, api.ErrStatic)
		}
	}
	tab.Subs[ofVector].T = 13
	gives(t, "no type", tab, length, 0, api.ErrStatic)
	tab.Subs[ofVector].T = -1
	gives(t, "no type", tab, length, 0, api.ErrStatic)
}

// lower lets calls be nested far less deep than the trees of a test, until the test ends.
func lower(t *testing.T) {
	was := debug.SetMaxStack(4 << 20)
	t.Cleanup(func() { debug.SetMaxStack(was) })
}

// P7.1: trees deeper than calls can be nested, and operands that are not needed.
func TestDeepTrees(t *testing.T) {
	lower(t)
	tab := world()
	const depth = 80000
	for _, c := range []struct {
		leaf api.Expr
		want api.Errno
	}{
		{lit(1), api.OK}, {lit(-7), api.OK}, {lit(math.MaxInt64), api.ErrValue}, {api.Expr{Kind: api.ExNull}, api.ErrStatic},
	} {
		signs, sum, choice, call := c.leaf, c.leaf, c.leaf, c.leaf
		for range depth {
			signs = api.Expr{Kind: api.ExMonadic, Oper: api.OperNeg, L: []api.Expr{signs}}
			sum = api.Expr{Kind: api.ExDyadic, Oper: api.OperAdd, L: []api.Expr{lit(1), sum}}
			choice = api.Expr{Kind: api.ExIf, L: []api.Expr{lit(1), choice, lit(5)}}
			call = api.Expr{Kind: api.ExCall, L: []api.Expr{{Kind: api.ExNull}}, A: []api.Assoc{{E: call}}, Ent: number(t, tab, "Integer")}
		}
		for i, x := range []api.Expr{signs, sum, choice, call} {
			want := c.leaf.N
			if i == 1 {
				want += depth
			}
			if c.want != api.OK {
				want = 0
			}
			if v, e := static.Value(tab, x); v != want || e != c.want {
				t.Error(i, v, e)
			}
			if static.Is(tab, x) != (c.want != api.ErrStatic) {
				t.Error(i)
			}
		}
	}
}

// P7.1: operands that are one tree.
func TestSharedTrees(t *testing.T) {
	tab := world()
	x := lit(1)
	for range 16 {
		x = api.Expr{Kind: api.ExDyadic, Oper: api.OperAdd, L: []api.Expr{x, x}}
	}
	gives(t, "sum", tab, x, 1<<16, api.OK)
}
