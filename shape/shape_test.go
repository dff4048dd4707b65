package shape_test

import (
	"runtime/debug"
	"slices"
	"strings"
	"testing"

	"ceiling/api"
	"ceiling/expr"
	"ceiling/shape"
)

// P4.1: marks: names and full stops alone, as many as an expression can have.
func TestMark(t *testing.T) {
	for _, s := range []string{"T", "P.T", "A.B.C.D"} {
		x := ex(s)
		x.Line, x.Ent, x.T = -1, 2, 3
		if !shape.Mark(x) {
			t.Error(s)
		}
	}
	for _, s := range []string{"1", "null", "P.all", "P.all.T", "A'B", "A'B.C", "A (1)", "A (1).B", "T'(A)", "T'(A).B", "- A", "A + B", "(A, B)", "(if A then B else C)", "A in B"} {
		if shape.Mark(ex(s)) {
			t.Error(s)
		}
	}
	select1 := func(x api.Expr, s string) api.Expr { return api.Expr{Kind: api.ExSelect, S: s, L: []api.Expr{x}} }
	for i, x := range []api.Expr{
		{}, {Kind: api.ExName}, {Kind: api.ExName, S: "if"}, {Kind: api.ExName, S: "A", N: 1}, {Kind: api.ExName, S: "A", L: []api.Expr{ex("B")}}, {Kind: api.ExSelect, S: "A"}, {Kind: api.ExSelect, S: "A", L: []api.Expr{ex("A"), ex("B")}},
		select1(ex("A"), "1"), select1(api.Expr{}, "A"), select1(select1(api.Expr{Kind: api.ExName}, "A"), "B"), select1(select1(ex("A"), ""), "B"), long(33), long(1000),
	} {
		if shape.Mark(x) {
			t.Error(i)
		}
	}
	if !shape.Mark(long(32)) {
		t.Error("32 names")
	}
}

// odds are expressions of each sort: absent ones, marks, attributes, others, and what is not valid.
var odds = []api.Expr{
	{}, {Line: 1, Ent: 2, T: 3, L: []api.Expr{}, A: []api.Assoc{}}, ex("T"), ex("P.T"), long(32), ex("A'B"), ex("A (1)'B"), ex("1"), ex("A = B"), ex("P.all"),
	long(33), {S: "x"}, {N: 1}, {Oper: api.OperAdd}, {L: []api.Expr{{}}}, {A: []api.Assoc{{}}}, {Kind: api.ExMonadic}, {Kind: api.ExAttr, S: "B"}, {Kind: api.ExSelect, S: "B", L: []api.Expr{ex("1")}},
}

// P4.1: which parts indications have together.
func TestIndications(t *testing.T) {
	yes := 0
	for _, a := range odds {
		for _, b := range odds {
			for _, c := range odds {
				for _, d := range odds {
					s := api.Indic{Name: a, Lo: b, Hi: c, Value: d}
					ok := shape.MayIndic(s)
					if ok != mayIndic(s) {
						t.Fatal(s)
					}
					if ok {
						yes++
					}
				}
			}
		}
	}
	if yes < 100 {
		t.Error(yes)
	}
}

// P4.1: the three forms of discrete ranges.
func TestDiscreteRanges(t *testing.T) {
	yes := 0
	for _, a := range odds {
		for _, b := range odds {
			for _, c := range odds {
				d := api.Disc{Name: a, Lo: b, Hi: c}
				ok := shape.MayDisc(d)
				if ok != mayDisc(d) {
					t.Fatal(d)
				}
				if ok {
					yes++
				}
			}
		}
	}
	if yes < 100 {
		t.Error(yes)
	}
}

// named returns a group of n names for each n.
func named(sizes ...int) [][]string {
	var l [][]string
	for _, n := range sizes {
		l = append(l, slices.Repeat([]string{"A"}, n))
	}
	return l
}

// groupsOf returns groups of components with so many names.
func groupsOf(sizes ...int) []api.Comp {
	var l []api.Comp
	for _, names := range named(sizes...) {
		l = append(l, api.Comp{Names: names, Sub: indic("T")})
	}
	return l
}

// P4.1: modes, names, types and values of parameters.
func TestParameters(t *testing.T) {
	value := ex("A = B")
	for mode := range 256 {
		p := []api.Param{{Names: []string{"A"}, Mode: api.ModeKind(mode), Type: ex("T")}}
		if shape.MayParams(p) != (mode >= 1 && mode <= 3) {
			t.Error(mode)
		}
		if p[0].E = value; shape.MayParams(p) != (mode == 1) {
			t.Error(mode)
		}
	}
	for _, x := range odds {
		for _, y := range odds {
			p := []api.Param{{Names: []string{"A", "A"}, Mode: api.ModeIn, Type: x, E: y, Line: -3}}
			if shape.MayParams(p) != mayParams(p) {
				t.Error(p)
			}
		}
	}
	for _, sizes := range [][]int{{}, {1}, {8}, {9}, {4, 4}, {4, 5}, {1, 8}, {7, 1}, {1, 1, 1, 1, 1, 1, 1, 1}, {1, 1, 1, 1, 1, 1, 1, 1, 1}, {0}, {1, 0}, {0, 8}} {
		var l []api.Param
		all := 0
		for _, names := range named(sizes...) {
			l = append(l, api.Param{Names: names, Mode: api.ModeOut, Type: ex("T")})
			all += len(names)
		}
		if shape.MayParams(l) != (all <= 8 && !slices.Contains(sizes, 0)) {
			t.Error(sizes)
		}
	}
}

// P4.1: aspects.
func TestAspects(t *testing.T) {
	for n := range 12 {
		if l := slices.Repeat([]api.Aspect{{Name: "A", E: ex("A or B")}}, n); shape.MayAspects(l) != (n <= 8) {
			t.Error(n)
		}
	}
	for _, x := range odds {
		for _, s := range []string{"A", "", "is", "a.b"} {
			l := []api.Aspect{{Name: "B", E: ex("1")}, {Name: s, E: x}}
			if shape.MayAspects(l) != mayAspects(l) || shape.MayAspects(l) != (s == "A" && strings.Contains("MAE", sorts(x))) {
				t.Error(s, x)
			}
		}
	}
}

// P4.1: components: their names, alone and in all, their subtypes and values.
func TestComponents(t *testing.T) {
	for _, sizes := range [][]int{{}, {1}, {8}, {9}, {8, 8, 8, 8}, {8, 8, 8, 7, 1}, {8, 8, 8, 8, 1}, {1, 8, 8, 8, 8}, slices.Repeat([]int{1}, 32), slices.Repeat([]int{1}, 33), {0}, {1, 0}, {10}, {32}} {
		all := 0
		for _, n := range sizes {
			all += n
		}
		ok := all <= 32 && (len(sizes) == 0 || slices.Min(sizes) > 0 && slices.Max(sizes) <= 8)
		if shape.MayComps(groupsOf(sizes...)) != ok || shape.MayType(api.TypeDef{Kind: api.TdRecord, Comps: groupsOf(sizes...)}) != ok {
			t.Error(sizes)
		}
	}
	for _, x := range odds {
		for _, y := range odds {
			for i, s := range []api.Indic{{Name: x}, {Name: ex("T"), Value: x}, {Name: ex("T"), Lo: x}, {Name: ex("T"), Lo: ex("A = B"), Hi: x}} {
				l := []api.Comp{groupsOf(1)[0], {Names: []string{"A"}, Sub: s, E: y, Line: 1 << 40}}
				if shape.MayComps(l) != mayComps(l) {
					t.Error(i, x, y)
				}
			}
		}
	}
	for _, s := range []string{"", "of", "1", "A B", strings.Repeat("n", 33)} {
		if shape.MayComps([]api.Comp{{Names: []string{"A", s}, Sub: indic("T")}}) || shape.MayParams([]api.Param{{Names: []string{s, "A"}, Mode: api.ModeIn, Type: ex("T")}}) {
			t.Errorf("%q", s)
		}
	}
}

// definitions has a definition of each kind, and of each form of it.
func definitions() []api.TypeDef {
	arm := api.VarArm{Choices: []api.Choice{{Kind: api.ChOthers}}}
	return []api.TypeDef{
		{Kind: api.TdEnum, Names: []string{"A", "B"}}, {Kind: api.TdRange, Lo: ex("1"), Hi: ex("A = B")}, {Kind: api.TdDerived, Sub: api.Indic{Name: ex("T"), Lo: ex("1"), Hi: ex("2")}},
		{Kind: api.TdArray, Disc: api.Disc{Name: ex("A'B")}, Sub: indic("T")}, {Kind: api.TdArray, Disc: api.Disc{Lo: ex("1"), Hi: ex("2")}, Sub: indic("T")},
		{Kind: api.TdRecord}, {Kind: api.TdRecord, Comps: groupsOf(2)}, {Kind: api.TdRecord, Var: "D", Arms: []api.VarArm{arm}}, {Kind: api.TdRecord, Comps: groupsOf(1), Var: "D", Arms: []api.VarArm{{Choices: ofExprs("1"), Comps: groupsOf(1)}, arm}},
		{Kind: api.TdAccess, Sub: api.Indic{Name: ex("T"), Value: ex("1")}}, {Kind: api.TdPrivate}, {Kind: api.TdPrivate, Limited: true},
	}
}

// ofExprs returns choices that are expressions.
func ofExprs(l ...string) []api.Choice {
	var out []api.Choice
	for _, s := range l {
		out = append(out, api.Choice{Kind: api.ChExpr, L: []api.Expr{ex(s)}})
	}
	return out
}

// fields change one field each of a type definition.
var fields = []func(*api.TypeDef){
	func(t *api.TypeDef) { t.Names = append(t.Names, "N") }, func(t *api.TypeDef) { t.Names = nil }, func(t *api.TypeDef) { t.Lo = ex("7") }, func(t *api.TypeDef) { t.Lo = api.Expr{} }, func(t *api.TypeDef) { t.Lo = long(33) },
	func(t *api.TypeDef) { t.Hi = ex("7") }, func(t *api.TypeDef) { t.Hi = api.Expr{} }, func(t *api.TypeDef) { t.Sub = indic("T9") }, func(t *api.TypeDef) { t.Sub = api.Indic{} }, func(t *api.TypeDef) { t.Sub.Value = ex("7") },
	func(t *api.TypeDef) { t.Sub.Hi = ex("7") }, func(t *api.TypeDef) { t.Disc.Name = ex("T9") }, func(t *api.TypeDef) { t.Disc = api.Disc{} }, func(t *api.TypeDef) { t.Disc.Hi = ex("7") }, func(t *api.TypeDef) { t.Disc.Lo = ex("7") },
	func(t *api.TypeDef) { t.Comps = groupsOf(3) }, func(t *api.TypeDef) { t.Comps = nil }, func(t *api.TypeDef) { t.Comps = groupsOf(0) }, func(t *api.TypeDef) { t.Var = "V" }, func(t *api.TypeDef) { t.Var = "" }, func(t *api.TypeDef) { t.Var = "end" },
	func(t *api.TypeDef) { t.Arms = nil }, func(t *api.TypeDef) { t.Arms = append([]api.VarArm{{}}, t.Arms...) }, func(t *api.TypeDef) { t.Arms = []api.VarArm{{Choices: ofExprs("1", "2")}} }, func(t *api.TypeDef) { t.Limited = !t.Limited },
}

// P4.1: all kinds of type definitions, with each field changed; what is not valid, and what differs, is found.
func TestDefinitions(t *testing.T) {
	for i, x := range definitions() {
		if !shape.MayType(x) {
			t.Error("valid", i)
		}
		for j, y := range definitions() {
			if shape.SameType(x, y) != (i == j) {
				t.Error("same", i, j)
			}
		}
		for j, f := range fields {
			y := copied(x, false)
			f(&y)
			if shape.MayType(y) != mayType(y) || shape.SameType(x, y) != same(x, y) || shape.SameType(y, x) != same(x, y) {
				t.Error("field", i, j)
			}
		}
		for k := range 256 {
			y := x
			y.Kind = api.TypeDefKind(k)
			if shape.MayType(y) != mayType(y) {
				t.Error("kind", i, k)
			}
		}
	}
}

// P4.1: how many literals, variants and components there can be.
func TestLengths(t *testing.T) {
	for n := range 70 {
		names := slices.Repeat([]string{"A"}, n)
		if shape.MayType(api.TypeDef{Kind: api.TdEnum, Names: names}) != (n >= 1 && n <= 64) {
			t.Error("literals", n)
		}
		arms := slices.Repeat([]api.VarArm{{Choices: ofExprs("1")}}, n)
		if shape.MayType(api.TypeDef{Kind: api.TdRecord, Var: "D", Arms: arms}) != (n >= 1 && n <= 16) {
			t.Error("variants", n)
		}
		choices := ofExprs(slices.Repeat([]string{"1"}, n)...)
		if shape.MayType(api.TypeDef{Kind: api.TdRecord, Var: "D", Arms: []api.VarArm{{Choices: choices}}}) != (n >= 1 && n <= 16) {
			t.Error("choices", n)
		}
	}
	if shape.MayType(api.TypeDef{Kind: api.TdEnum, Names: []string{"A", "of"}}) {
		t.Error("literal")
	}
	record := func(first []int, arms ...[]int) bool {
		x := api.TypeDef{Kind: api.TdRecord, Comps: groupsOf(first...), Var: "D"}
		for _, sizes := range arms {
			x.Arms = append(x.Arms, api.VarArm{Choices: ofExprs("1"), Comps: groupsOf(sizes...)})
		}
		return shape.MayType(x)
	}
	most := []int{8, 8, 8}
	if !record(most, []int{8}) || !record(nil, []int{8, 8}, []int{8}, []int{7, 1}) || !record([]int{1}, most, nil, []int{7}) || record(most, []int{8, 1}) || record([]int{1}, most, []int{8}) || record(most, []int{8}, []int{1}) || record(nil, []int{8, 8}, []int{8, 8}, []int{1}) || record(nil, []int{0}) {
		t.Error("components in all")
	}
	mixed := api.TypeDef{Kind: api.TdRecord, Var: "D", Arms: []api.VarArm{{Choices: append(ofExprs("1"), api.Choice{Kind: api.ChOthers})}}}
	if shape.MayType(mixed) {
		t.Error("others is not alone")
	}
}

// P4.1: lists without elements are equal, and lines, entities and types are not considered.
func TestSameLists(t *testing.T) {
	x, y := ex("P.T"), ex("P.T")
	x.Line, x.L[0].Ent, x.T = 3, 4, 5
	none := []api.Expr{}
	if !shape.SameIndic(api.Indic{Name: x, Lo: x, Hi: x, Value: x}, api.Indic{Name: y, Lo: y, Hi: y, Value: y}) || !shape.SameIndic(api.Indic{Lo: api.Expr{L: none, Line: 1}}, api.Indic{}) || !shape.SameDisc(api.Disc{Name: x, Lo: x, Hi: x}, api.Disc{Name: y, Lo: y, Hi: y}) {
		t.Error("expressions")
	}
	if !shape.SameParams([]api.Param{{Names: []string{}, Type: x, Line: 1}}, []api.Param{{Type: y, Line: 2}}) || !shape.SameParams(nil, []api.Param{}) || shape.SameParams(nil, []api.Param{{}}) || !shape.SameAspects([]api.Aspect{}, nil) || !shape.SameAspects([]api.Aspect{{E: x}}, []api.Aspect{{E: y}}) {
		t.Error("parameters and aspects")
	}
	if !shape.SameComps([]api.Comp{{Names: []string{}, E: x, Line: 1}}, []api.Comp{{E: y}}) || !shape.SameComps([]api.Comp{}, nil) || shape.SameComps([]api.Comp{{}}, nil) {
		t.Error("components")
	}
	if !shape.SameType(api.TypeDef{Names: []string{}, Comps: []api.Comp{}, Arms: []api.VarArm{}}, api.TypeDef{}) || !shape.SameType(api.TypeDef{Arms: []api.VarArm{{Choices: []api.Choice{}, Comps: []api.Comp{}}}}, api.TypeDef{Arms: []api.VarArm{{}}}) || shape.SameType(api.TypeDef{Arms: []api.VarArm{{}}}, api.TypeDef{}) {
		t.Error("definitions")
	}
}

// P4.1: random things, and what is nearly the same.
func TestRandomThings(t *testing.T) {
	for _, k := range kinds {
		k.randomThings(t)
	}
}

func (k kind[T]) randomThings(t *testing.T) {
	m := newMaker(1)
	good, bad, equal, other := 0, 0, 0, 0
	for range 1500 {
		x := k.some(m)
		for range 3 {
			y := spoiled(m, x)
			before := copied(y, false)
			if k.may(y) != k.ref(y) || k.same(x, y) != same(x, y) || k.same(y, x) != same(x, y) || !k.same(y, y) {
				t.Fatalf("%T: %v %v", x, x, y)
			}
			if !same(before, y) {
				t.Fatalf("%T has changed", x)
			}
			count(k.may(y), &good, &bad)
			count(k.same(x, y), &equal, &other)
			x = y
		}
	}
	if good < 500 || bad < 500 || equal < 100 || other < 1000 {
		t.Errorf("%T %d %d %d %d", *new(T), good, bad, equal, other)
	}
}

func count(ok bool, yes, no *int) {
	if ok {
		*yes++
	} else {
		*no++
	}
}

// small lets calls be nested far less deep than the trees and tokens of a test, until the test ends.
func small(t *testing.T) {
	was := debug.SetMaxStack(4 << 20)
	t.Cleanup(func() { debug.SetMaxStack(was) })
}

// P4.1: trees deeper than calls can be nested, long lists, and trees whose parts are one tree, more than could be counted.
func TestTotal(t *testing.T) {
	small(t)
	const depth = 200000
	wide := ex("A")
	for range 1000 {
		wide = api.Expr{Kind: api.ExDyadic, Oper: api.OperAdd, L: []api.Expr{wide, wide}}
	}
	for _, x := range []api.Expr{long(depth), wide, {Kind: api.ExSelect, S: "A", L: []api.Expr{wide}}, {L: []api.Expr{wide}}} {
		if shape.Mark(x) || shape.MayIndic(api.Indic{Name: x}) || shape.MayIndic(api.Indic{Name: ex("T"), Value: x}) || shape.MayIndic(api.Indic{Name: ex("T"), Lo: x, Hi: x}) || shape.MayDisc(api.Disc{Name: x}) || shape.MayDisc(api.Disc{Lo: ex("1"), Hi: x}) {
			t.Error("indications")
		}
		p := api.Param{Names: []string{"A"}, Mode: api.ModeIn, Type: ex("T"), E: x}
		if shape.MayParams([]api.Param{p}) || shape.MayAspects([]api.Aspect{{Name: "A", E: x}}) || shape.MayComps([]api.Comp{{Names: []string{"A"}, Sub: indic("T"), E: x}}) || shape.SameParams([]api.Param{p}, []api.Param{{}}) {
			t.Error("lists")
		}
		for kind := range api.TypeDefKind(9) {
			for i, y := range []api.TypeDef{{Lo: x, Hi: x}, {Hi: x}, {Sub: api.Indic{Name: x}}, {Sub: indic("T"), Disc: api.Disc{Name: x}}, {Var: "D", Arms: []api.VarArm{{Choices: []api.Choice{{Kind: api.ChExpr, L: []api.Expr{x}}}}}}} {
				y.Kind = kind
				if l, e := shape.TypeLines(y, 0); shape.MayType(y) || len(l) != 0 || e != api.ErrArg {
					t.Error(kind, i)
				}
			}
		}
	}
	deep, other := long(depth), long(depth)
	if !shape.SameIndic(api.Indic{Name: deep}, api.Indic{Name: other}) || shape.SameDisc(api.Disc{Lo: deep}, api.Disc{Lo: long(depth - 1)}) {
		t.Error("same")
	}
	names := slices.Repeat([]string{"A"}, depth)
	groups := slices.Repeat(groupsOf(1), depth)
	for i, y := range []api.TypeDef{{Kind: api.TdEnum, Names: names}, {Kind: api.TdRecord, Comps: groups}, {Kind: api.TdRecord, Comps: []api.Comp{{Names: names, Sub: indic("T")}}}, {Kind: api.TdRecord, Var: "D", Arms: make([]api.VarArm, depth)}, {Kind: api.TdPrivate, Arms: make([]api.VarArm, depth)}} {
		if shape.MayType(y) || !shape.SameType(y, y) {
			t.Error("length", i)
		}
	}
	if shape.MayComps(groups) || shape.MayParams(make([]api.Param, depth)) || shape.MayAspects(slices.Repeat([]api.Aspect{{Name: "A", E: ex("1")}}, depth)) {
		t.Error("lengths")
	}
	if !expr.May(long(32)) || expr.May(long(33)) {
		t.Error("the limit of layer 3")
	}
}
