package expr_test

import (
	"math/rand"
	"runtime/debug"
	"strings"
	"testing"

	"ceiling/api"
	"ceiling/expr"
)

var a, b, c = name("A"), name("B"), name("C")

// kinds has an expression of each kind, and of each form of it.
var kinds = []api.Expr{
	num(0), num(2147483647), of(api.ExNull), a,
	with(api.ExSelect, "S", a), of(api.ExDeref, a), with(api.ExAttr, "S", a), call(a, value(num(1))), call(a, value(b), when(c, is(b))), call(a, when(b, is(b)), when(c, is(b))),
	of(api.ExQual, a, num(1)), aggr(value(a), value(b)), aggr(when(a, others)), aggr(value(num(1)), when(a, span(a, b), is(num(1))), when(b, others)),
	of(api.ExIf, a, b, c), one(api.OperPos, num(1)), one(api.OperNeg, a), one(api.OperAbs, a), one(api.OperNot, a), two(api.OperAdd, a, num(1)), two(api.OperElse, a, num(1)),
	of(api.ExIn, num(1), a), of(api.ExIn, num(1), num(2), num(3)), of(api.ExNotIn, num(1), a), of(api.ExNotIn, num(1), num(2), num(3)),
}

// chain returns a name of a depth.
func chain(depth int) api.Expr {
	x := a
	for range depth - 1 {
		x = of(api.ExDeref, x)
	}
	return x
}

// sum returns a sum of n names, of 2 n - 1 expressions, that is not nested deep.
func sum(n int) api.Expr {
	if n == 1 {
		return a
	}
	return two(api.OperAdd, sum(n/2), sum(n-n/2))
}

// P3.1: the chapter's examples, and each kind with one more field, which it does not use.
func TestFields(t *testing.T) {
	if expr.May(api.Expr{Kind: api.ExMonadic, Oper: api.OperNot}) {
		t.Error("an operand is missing")
	}
	if n := expr.Size(two(api.OperAdd, a, call(name("F"), value(b)))); n != 5 {
		t.Error(n)
	}
	for i, x := range kinds {
		y := x
		y.Line, y.Ent, y.T = -7, 8, 1<<40
		if !expr.May(x) || !expr.May(y) || !expr.Same(x, y) {
			t.Error("valid", i)
		}
		for _, f := range []func(*api.Expr){
			func(x *api.Expr) { x.Kind = 0 }, func(x *api.Expr) { x.Kind = api.ExNotIn + 1 }, func(x *api.Expr) { x.Kind = 255 },
			func(x *api.Expr) { x.Oper += 100 }, func(x *api.Expr) { x.N += 1 << 31 }, func(x *api.Expr) { x.N = -1 },
			func(x *api.Expr) { x.S += " " }, func(x *api.Expr) { x.L = append([]api.Expr{a, a, a}, x.L...) },
			func(x *api.Expr) { x.A = append(append([]api.Assoc{}, x.A...), value(a)) }, func(x *api.Expr) { x.A = append([]api.Assoc{when(a, others)}, x.A...) },
		} {
			z := x
			f(&z)
			if expr.May(z) != may(z) || expr.May(z) && z.Kind != api.ExCall && z.Kind != api.ExAggr || expr.Same(x, z) || expr.Same(z, x) {
				t.Error("field", i, z)
			}
		}
	}
}

// P3.1: operators and integers of the kinds that use them.
func TestOperators(t *testing.T) {
	for o := range 256 {
		o := api.Operator(o)
		if expr.May(one(o, a)) != (o >= api.OperPos && o <= api.OperNot) || expr.May(two(o, a, a)) != (o >= api.OperAdd && o <= api.OperElse) {
			t.Error(o)
		}
		for k := range api.ExprKind(17) {
			for _, x := range []api.Expr{{Kind: k, Oper: o}, {Kind: k, Oper: o, L: []api.Expr{a, a}}} {
				if expr.Level(x) != level(x) {
					t.Error(k, o, expr.Level(x))
				}
			}
		}
	}
	for _, n := range []int64{-1 << 63, -1, 0, 1, 2147483646, 2147483647, 2147483648, 1<<63 - 1} {
		if expr.May(num(n)) != (n >= 0 && n <= 2147483647) {
			t.Error(n)
		}
	}
}

// P3.1: where a name and where a name form must stand.
func TestNames(t *testing.T) {
	for _, s := range []string{"", "if", "all", "1", "_A", "A B", "A.B", "+", strings.Repeat("a", 33), strings.Repeat("a", 1000000)} {
		for _, x := range []api.Expr{name(s), with(api.ExSelect, s, a), with(api.ExAttr, s, a), call(a, when(a, is(name(s)))), aggr(when(a, is(name(s))))} {
			if expr.May(x) {
				t.Error(s, x.Kind)
			}
		}
	}
	for k := range 256 {
		if x := (api.Expr{Kind: api.ExprKind(k)}); expr.Named(x) != named(x) {
			t.Error(k)
		}
	}
	for i, x := range kinds {
		form := named(x)
		for j, y := range []api.Expr{with(api.ExSelect, "S", x), of(api.ExDeref, x), with(api.ExAttr, "S", x), call(x, value(a)), of(api.ExQual, x, a), of(api.ExIn, a, x), of(api.ExNotIn, a, x)} {
			if expr.May(y) != form {
				t.Error(i, j)
			}
		}
		for j, y := range []api.Expr{of(api.ExQual, a, x), of(api.ExIn, x, a), of(api.ExIn, a, x, x), of(api.ExNotIn, x, x, x), of(api.ExIf, x, x, x), one(api.OperNot, x), two(api.OperMul, x, x), call(a, value(x)), aggr(when(x, is(x)))} {
			if !expr.May(y) {
				t.Error(i, j)
			}
		}
	}
}

// P3.1: the order of arguments and associations, and the choices of both.
func TestLists(t *testing.T) {
	var assocs []api.Assoc
	for _, l := range [][]api.Choice{
		nil, {}, {others}, {is(a)}, {is(num(1))}, {is(with(api.ExSelect, "S", a))}, {span(a, b)}, {is(a), is(b)}, {is(a), span(a, b)}, {is(a), others}, {others, is(a)}, {others, others},
		{{}}, {{Kind: api.ChExpr}}, {{Kind: api.ChExpr, L: []api.Expr{a, b}}}, {{Kind: api.ChRange, L: []api.Expr{a}}}, {{Kind: api.ChRange, L: []api.Expr{a, b, c}}}, {{Kind: api.ChOthers, L: []api.Expr{a}}}, {{Kind: 4}}, {{Kind: 255}}, {is(api.Expr{})}, {span(a, num(-1))},
	} {
		if expr.MayChoices(l) != mayChoices(l) {
			t.Error(l)
		}
		assocs = append(assocs, api.Assoc{Choices: l, E: a})
	}
	assocs = append(assocs, api.Assoc{}, when(num(-1), is(a)))
	lists := [][]api.Assoc{nil, {}}
	for _, x := range assocs {
		lists = append(lists, []api.Assoc{x})
		for _, y := range assocs {
			lists = append(lists, []api.Assoc{x, y})
			for _, z := range assocs {
				lists = append(lists, []api.Assoc{x, y, z})
			}
		}
	}
	args, aggrs := 0, 0
	for _, l := range lists {
		yes, full := mayArgs(l), may(aggr(l...))
		if expr.MayArgs(l) != yes || expr.May(call(b, l...)) != yes || expr.May(aggr(l...)) != full {
			t.Error(l)
		}
		if yes {
			args++
		}
		if full {
			aggrs++
		}
	}
	if args < 10 || aggrs < 100 {
		t.Error(args, aggrs)
	}
}

// P3.1: how many arguments, associations, choices and expressions there can be.
func TestLengths(t *testing.T) {
	for n := range 40 {
		values, choices := make([]api.Assoc, n), make([]api.Choice, n)
		for i := range n {
			values[i], choices[i] = value(a), is(a)
		}
		if expr.MayArgs(values) != (n >= 1 && n <= 8) || expr.May(call(a, values...)) != (n >= 1 && n <= 8) {
			t.Error("arguments", n)
		}
		if expr.May(aggr(values...)) != (n >= 2 && n <= 32) || expr.May(aggr(append(values, when(a, others))...)) != (n <= 31) {
			t.Error("associations", n)
		}
		if expr.MayChoices(choices) != (n >= 1 && n <= 16) || expr.May(aggr(when(a, choices...))) != (n >= 1 && n <= 16) {
			t.Error("choices", n)
		}
	}
	if !expr.May(one(api.OperNot, sum(128))) || expr.May(sum(129)) || expr.May(one(api.OperNot, one(api.OperNot, sum(128)))) {
		t.Error("size of 256")
	}
	if !expr.May(chain(32)) || expr.May(chain(33)) {
		t.Error("depth of 32")
	}
	if !expr.MayArgs([]api.Assoc{value(chain(31))}) || expr.MayArgs([]api.Assoc{value(chain(32))}) {
		t.Error("depth of arguments")
	}
	if full := sum(127); !expr.MayArgs([]api.Assoc{when(full, is(a))}) || expr.MayArgs([]api.Assoc{value(a), when(full, is(a))}) {
		t.Error("size of arguments")
	}
	var wide, deep []api.Choice
	for range 16 {
		wide = append(wide, span(one(api.OperNot, sum(128)), one(api.OperNot, sum(128))))
		deep = append(deep, is(chain(32)))
	}
	if !expr.MayChoices(wide) || !expr.MayChoices(deep) || expr.MayChoices([]api.Choice{is(chain(33))}) || expr.MayChoices([]api.Choice{span(a, sum(129))}) {
		t.Error("each choice alone")
	}
	if expr.May(aggr(when(a, wide...))) {
		t.Error("choices together")
	}
}

// P3.1: depths and sizes at which all places of parts count.
func TestPlacesOfParts(t *testing.T) {
	for i, f := range []func(api.Expr) api.Expr{
		func(x api.Expr) api.Expr { return aggr(when(a, is(x))) }, func(x api.Expr) api.Expr { return aggr(when(a, span(b, x))) },
		func(x api.Expr) api.Expr { return aggr(value(b), value(x)) }, func(x api.Expr) api.Expr { return call(a, value(b), value(x)) },
		func(x api.Expr) api.Expr { return call(x, value(b)) }, func(x api.Expr) api.Expr { return of(api.ExIf, a, b, x) },
		func(x api.Expr) api.Expr { return of(api.ExNotIn, a, b, x) }, func(x api.Expr) api.Expr { return of(api.ExQual, a, x) },
	} {
		size, _ := measured(f(a))
		if expr.Size(f(a)) != size || expr.Size(f(f(a))) != 2*size-1 || expr.Size(f(api.Expr{})) != size {
			t.Error("size", i)
		}
		if !expr.May(f(chain(31))) || expr.May(f(chain(32))) {
			t.Error("depth", i)
		}
		bad := with(api.ExSelect, "1", a)
		if expr.May(f(bad)) || !expr.Same(f(bad), f(bad)) || expr.Same(f(a), f(bad)) || expr.Same(f(bad), f(a)) || expr.Same(f(a), f(b)) {
			t.Error("invalid part", i)
		}
	}
}

// P3.1: random expressions, and what is nearly one.
func TestRandomTrees(t *testing.T) {
	m := maker{rand.New(rand.NewSource(1))}
	yes := 0
	for range 15000 {
		x := m.expr(1 + m.Intn(6))
		for range m.Intn(4) {
			y := m.spoil(x)
			size, _ := measured(y)
			if expr.May(y) != may(y) || expr.Size(y) != size || expr.Level(y) != level(y) || expr.Named(y) != named(y) || expr.MayArgs(y.A) != mayArgs(y.A) {
				t.Fatal(y)
			}
			if expr.Same(x, y) != same(x, y) || expr.SameArgs(x.A, y.A) != same(aggr(x.A...), aggr(y.A...)) {
				t.Fatal(x, y)
			}
			for i := range min(len(x.A), len(y.A)) {
				c, d := x.A[i].Choices, y.A[i].Choices
				if expr.SameChoices(c, d) != same(aggr(when(a, c...)), aggr(when(a, d...))) || expr.MayChoices(d) != mayChoices(d) {
					t.Fatal(c, d)
				}
			}
			if x = y; expr.May(y) {
				yes++
			}
		}
	}
	if yes < 3000 {
		t.Error(yes)
	}
}

// P3.1: equal lists, and lists that differ in a length or in a kind alone.
func TestSame(t *testing.T) {
	if !expr.SameArgs(nil, []api.Assoc{}) || !expr.SameChoices([]api.Choice{}, nil) || !expr.Same(a, api.Expr{Kind: api.ExName, S: "A", L: []api.Expr{}, A: []api.Assoc{}}) {
		t.Error("lists without elements")
	}
	if !expr.SameArgs([]api.Assoc{{Choices: []api.Choice{}, E: a}}, []api.Assoc{value(a)}) || !expr.SameChoices([]api.Choice{{Kind: 9, L: []api.Expr{}}}, []api.Choice{{Kind: 9}}) {
		t.Error("lists without elements inside")
	}
	lists := [][]api.Choice{nil, {others}, {others, others}, {is(a)}, {is(b)}, {span(a, b)}, {span(a, c)}, {span(c, b)}, {is(a), is(b)}, {{}}, {{Kind: 9}}, {{Kind: api.ChRange, L: []api.Expr{a}}}, {{Kind: api.ChExpr, L: []api.Expr{a, b}}}}
	for i, x := range lists {
		for j, y := range lists {
			if expr.SameChoices(x, y) != (i == j) || expr.SameArgs([]api.Assoc{when(a, x...)}, []api.Assoc{when(a, y...)}) != (i == j) {
				t.Error(i, j)
			}
		}
	}
	// As many parts in the same order, at other places.
	x, y := aggr(when(a, is(b), is(c))), aggr(when(a, span(b, c)))
	z := api.Expr{Kind: api.ExAggr, L: []api.Expr{b, c}, A: []api.Assoc{value(a)}}
	if expr.Same(x, y) || expr.Same(y, z) || expr.Same(x, z) || expr.SameArgs([]api.Assoc{value(a), value(b)}, []api.Assoc{when(b, is(a))}) {
		t.Error("places")
	}
	if expr.SameArgs([]api.Assoc{value(a)}, []api.Assoc{value(b)}) || expr.SameArgs([]api.Assoc{value(a)}, nil) || !expr.SameArgs([]api.Assoc{value(a)}, []api.Assoc{value(a)}) {
		t.Error("arguments")
	}
}

// small lets calls be nested far less deep than the trees and tokens of a test, until the test ends.
func small(t *testing.T) {
	was := debug.SetMaxStack(4 << 20)
	t.Cleanup(func() { debug.SetMaxStack(was) })
}

// P3.1: trees deeper than calls can be nested, and trees whose parts are one tree, more than could be counted.
func TestTotal(t *testing.T) {
	small(t)
	const depth = 200000
	deep, other := chain(depth), chain(depth)
	if expr.Size(deep) != depth || !expr.Same(deep, other) || expr.Same(deep, chain(depth-1)) || expr.May(deep) {
		t.Error("depth")
	}
	if _, e := expr.Tokens(deep); e != api.ErrArg {
		t.Error(e)
	}
	if expr.MayArgs([]api.Assoc{value(deep)}) || expr.MayChoices([]api.Choice{is(deep)}) || !expr.SameChoices([]api.Choice{is(deep)}, []api.Choice{is(other)}) {
		t.Error("lists")
	}
	wide := make([]api.Expr, depth)
	list := make([]api.Assoc, depth)
	for i := range list {
		list[i] = value(a)
	}
	x := api.Expr{Kind: api.ExIf, L: wide, A: list}
	if expr.Size(x) != 2*depth+1 || expr.May(x) || !expr.Same(x, x) || expr.MayArgs(list) || expr.May(aggr(list...)) || expr.MayChoices(make([]api.Choice, depth)) {
		t.Error("length")
	}
	for _, twice := range []func(api.Expr) api.Expr{
		func(x api.Expr) api.Expr { return two(api.OperAdd, x, x) },
		func(x api.Expr) api.Expr { return aggr(when(x, span(x, x)), value(x)) },
		func(x api.Expr) api.Expr { return call(a, value(x), when(x, is(a))) },
	} {
		for _, depth := range []int{9, 31, 60, 1000} {
			x := a
			for range depth {
				x = twice(x)
			}
			if _, e := expr.Tokens(x); expr.May(x) || e != api.ErrArg || expr.MayArgs(x.A) || expr.MayChoices([]api.Choice{is(x)}) {
				t.Error(depth)
			}
		}
	}
}
