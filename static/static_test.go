package static_test

import (
	"math"
	"reflect"
	"slices"
	"testing"

	"ceiling/api"
	"ceiling/expr"
	"ceiling/lex"
	"ceiling/static"
	"ceiling/table"
)

// The types and subtypes of world.
const (
	univ = iota
	integer
	boolean
	color
	small
	vector
	pair
	ref
	private
	whole
	discrete
	vague
	tints
)

const (
	ofInteger = iota
	ofBoolean
	ofColor
	ofSmall
	ofVector
	ofPair
	ofRef
	ofSign
	ofPrivate
	ofWhole
	ofDiscrete
	ofVague
	ofTints
	ofWarm
	ofNone
	ofDigit
)

// row returns a type in which no field is used but those.
func row(kind api.TyKind, name string, first int) api.Ty {
	return api.Ty{Kind: kind, Name: name, Parent: -1, First: first, Index: -1, Elem: -1, Disc: -1, Target: -1, Priv: -1}
}

// with returns a type with a change.
func with(r api.Ty, change func(r *api.Ty)) api.Ty {
	change(&r)
	return r
}

// array returns an array type of integers.
func array(name string, first, index int) api.Ty {
	return with(row(api.TyArray, name, first), func(r *api.Ty) { r.Index, r.Elem = index, ofInteger })
}

// world returns a valid table with types, subtypes and entities of all sorts.
func world() api.Table {
	return api.Table{
		Types: []api.Ty{
			univ:     row(api.TyUniv, "", -1),
			integer:  row(api.TyInt, "Integer", ofInteger),
			boolean:  with(row(api.TyEnum, "Boolean", ofBoolean), func(r *api.Ty) { r.Lits = []string{"False", "True"} }),
			color:    with(row(api.TyEnum, "Color", ofColor), func(r *api.Ty) { r.Lits = []string{"Red", "Green", "Blue"} }),
			small:    with(row(api.TyInt, "Small", ofSmall), func(r *api.Ty) { r.Parent = integer }),
			vector:   array("Vector", ofVector, ofSign),
			pair:     with(row(api.TyRecord, "Pair", ofPair), func(r *api.Ty) { r.Comps = []api.CompRow{{Name: "x"}, {Name: "y"}} }),
			ref:      with(row(api.TyAccess, "Ref", ofRef), func(r *api.Ty) { r.Target = ofInteger }),
			private:  with(row(api.TyFormal, "Private", ofPrivate), func(r *api.Ty) { r.Formal = api.OfPrivate }),
			whole:    with(row(api.TyInt, "Whole", ofWhole), func(r *api.Ty) { r.Formal = api.OfInteger }),
			discrete: with(row(api.TyEnum, "Discrete", ofDiscrete), func(r *api.Ty) { r.Formal = api.OfDiscrete }),
			vague:    array("Vague", ofVague, ofWhole),
			tints:    array("Tints", ofTints, ofWarm),
		},
		Subs: []api.Subt{
			ofInteger: {T: integer, Lo: api.MinBase, Hi: api.MaxBase}, ofBoolean: {T: boolean, Hi: 1}, ofColor: {T: color, Hi: 2}, ofSmall: {T: small, Lo: 5, Hi: 9},
			ofVector: {T: vector}, ofPair: {T: pair}, ofRef: {T: ref}, ofSign: {T: integer, Lo: -1, Hi: 1},
			ofPrivate: {T: private}, ofWhole: {T: whole}, ofDiscrete: {T: discrete}, ofVague: {T: vague}, ofTints: {T: tints},
			ofWarm: {T: color, Hi: 1}, ofNone: {T: integer, Lo: 5, Hi: 4}, ofDigit: {T: integer, Lo: 1, Hi: 9},
		},
		Ents: entities(),
	}
}

// entities returns the entities of world, each with another name.
func entities() []api.Ent {
	l := []api.Ent{{Kind: api.EnStandard, Name: "Standard", T: integer}, {Kind: api.EnPackage, Name: "P", T: integer}}
	for sub, name := range []string{"Integer", "Boolean", "Color", "Small", "Vector", "Pair", "Ref", "Sign", "Private", "Whole", "Discrete", "Vague", "Tints", "Warm", "None", "Digit"} {
		of := [...]int{integer, boolean, color, small, vector, pair, ref, integer, private, whole, discrete, vague, tints, color, integer, integer}[sub]
		kind := api.EnType
		if sub == ofSign || sub > ofTints {
			kind = api.EnSub
		}
		l = append(l, api.Ent{Kind: kind, Name: name, T: of, Sub: sub})
	}
	for ty, lits := range map[int][]string{boolean: {"False", "True"}, color: {"Red", "Green", "Blue"}} {
		for i, name := range lits {
			l = append(l, api.Ent{Kind: api.EnLiteral, Name: name, T: ty, Sub: ty - 1, Value: int64(i)})
		}
	}
	slices.SortStableFunc(l[18:], func(a, b api.Ent) int { return a.T - b.T })
	return append(l,
		api.Ent{Kind: api.EnConst, Name: "n", T: integer, Static: true, Value: 3},
		api.Ent{Kind: api.EnConst, Name: "s", T: small, Sub: ofSmall, Static: true, Value: 7},
		api.Ent{Kind: api.EnConst, Name: "w", T: color, Sub: ofWarm, Static: true, Value: 1},
		api.Ent{Kind: api.EnConst, Name: "yes", T: boolean, Sub: ofBoolean, Static: true, Value: 1},
		api.Ent{Kind: api.EnConst, Name: "d", T: integer, Value: 3},
		api.Ent{Kind: api.EnNumber, Name: "k", Value: 1 << 40},
		api.Ent{Kind: api.EnNumber, Name: "most", Value: api.MaxValue},
		api.Ent{Kind: api.EnNumber, Name: "over", Value: api.MaxValue + 1},
		api.Ent{Kind: api.EnVar, Name: "i", T: integer, Value: 3},
		api.Ent{Kind: api.EnVar, Name: "v", T: vector, Sub: ofVector},
		api.Ent{Kind: api.EnVar, Name: "t", T: tints, Sub: ofTints},
		api.Ent{Kind: api.EnVar, Name: "g", T: vague, Sub: ofVague},
		api.Ent{Kind: api.EnVar, Name: "pr", T: pair, Sub: ofPair},
		api.Ent{Kind: api.EnConst, Name: "cv", T: vector, Sub: ofVector},
		api.Ent{Kind: api.EnParam, Name: "pv", T: vector, Sub: ofVector, Mode: api.ModeIn},
		api.Ent{Kind: api.EnFunc, Name: "fv", T: vector, Sub: ofVector},
		api.Ent{Kind: api.EnLoop, Name: "lv", T: vector, Sub: ofVector, Static: true, Value: 3},
	)
}

// number returns the entity with a name.
func number(t *testing.T, tab api.Table, name string) int {
	t.Helper()
	i := slices.IndexFunc(tab.Ents, func(n api.Ent) bool { return n.Name == name })
	if i < 0 {
		t.Fatal("no entity", name)
	}
	return i
}

// parse reads an expression, or choices if it has | or .. in it, and resolves it from its parts outwards.
func parse(t *testing.T, tab api.Table, s string) api.Expr {
	t.Helper()
	x := choices(t, tab, s)
	if len(x) != 1 || x[0].Kind != api.ChExpr {
		t.Fatal(s)
	}
	return x[0].L[0]
}

// choices reads choices, and resolves their expressions.
func choices(t *testing.T, tab api.Table, s string) []api.Choice {
	t.Helper()
	l, _, e := lex.Tokens(s)
	if e != api.OK {
		t.Fatal(s, e)
	}
	x, n, e := expr.FrontChoices(l)
	if e != api.OK || n != len(l) {
		t.Fatal(s, n, e)
	}
	for i := range x {
		for j := range x[i].L {
			resolve(t, tab, &x[i].L[j])
		}
	}
	return x
}

// resolve fills in the types and entities of an expression whose names are those of world.
func resolve(t *testing.T, tab api.Table, x *api.Expr) {
	t.Helper()
	x.Ent, x.T = -1, univ
	for i := range x.L {
		resolve(t, tab, &x.L[i])
	}
	for i := range x.A {
		resolve(t, tab, &x.A[i].E)
	}
	switch x.Kind {
	case api.ExNull:
		x.T = ref
	case api.ExName, api.ExSelect:
		x.Ent = number(t, tab, x.S)
		x.T = tab.Ents[x.Ent].T
	case api.ExAttr:
		if x.S != "Length" && x.S != "Pos" {
			x.T = x.L[0].T
		}
		if r := tab.Types[x.T]; r.Kind == api.TyArray {
			x.T = tab.Subs[r.Index].T
		}
	case api.ExCall, api.ExQual:
		x.Ent, x.T = x.L[0].Ent, x.L[0].T
	case api.ExIf:
		x.T = max(x.L[1].T, x.L[2].T)
	case api.ExMonadic:
		x.T = x.L[0].T
	case api.ExDyadic:
		x.T = max(x.L[0].T, x.L[1].T)
		if x.Oper >= api.OperEq && x.Oper <= api.OperGe {
			x.T = boolean
		}
	case api.ExIn, api.ExNotIn:
		x.T = boolean
	}
}

// gives checks what Is and Value return, and that they change nothing.
func gives(t *testing.T, what any, tab api.Table, x api.Expr, want int64, why api.Errno) {
	t.Helper()
	before := copied(x)
	if is := static.Is(tab, x); is != (why != api.ErrStatic) {
		t.Error(what, "Is:", is)
	}
	if v, e := static.Value(tab, x); v != want || e != why {
		t.Error(what, "Value:", v, e, "not", want, why)
	}
	if !reflect.DeepEqual(x, before) {
		t.Error(what, "was changed")
	}
}

// copied returns an expression that shares no memory with another one.
func copied(x api.Expr) api.Expr {
	x.L, x.A = slices.Clone(x.L), slices.Clone(x.A)
	for i := range x.L {
		x.L[i] = copied(x.L[i])
	}
	for i := range x.A {
		x.A[i].E = copied(x.A[i].E)
	}
	return x
}

// An outcome is the value of an expression that is written as text, or its error.
type outcome struct {
	text string
	want int64
	why  api.Errno
}

func outcomes(t *testing.T, l []outcome) {
	t.Helper()
	tab := world()
	for _, c := range l {
		gives(t, c.text, tab, parse(t, tab, c.text), c.want, c.why)
	}
}

func TestWorld(t *testing.T) {
	if !table.May(world()) {
		t.Error("not valid")
	}
}

// P7.1: the chapter's examples.
func TestExamples(t *testing.T) {
	outcomes(t, []outcome{
		{"i", 0, api.ErrStatic}, {"7 / (-2)", -3, api.OK},
		{"n * 2", 6, api.OK}, {"n / 0", 0, api.ErrValue}, {"2147483647 + n", 0, api.ErrValue},
		{"Color'Succ (Red)", 1, api.OK}, {"Color'Succ (Blue)", 0, api.ErrValue}, {"Warm'Last", 1, api.OK}, {"Warm'(Blue)", 0, api.ErrValue},
		{"n > 1 or else 1 / 0 = 1", 1, api.OK},
		{"(-7) mod 3", 2, api.OK}, {"(-7) rem 3", -1, api.OK}, {"7 mod (-3)", -2, api.OK},
	})
}

// P7.1: names of entities of all kinds.
func TestNames(t *testing.T) {
	outcomes(t, []outcome{
		{"n", 3, api.OK}, {"P.n", 3, api.OK}, {"s", 7, api.OK}, {"w", 1, api.OK}, {"Blue", 2, api.OK}, {"P.Blue", 2, api.OK}, {"False", 0, api.OK},
		{"k", 1 << 40, api.OK}, {"P.k", 1 << 40, api.OK}, {"most", 1 << 62, api.OK}, {"over", 0, api.ErrValue},
		{"d", 0, api.ErrStatic}, {"P.d", 0, api.ErrStatic}, {"i", 0, api.ErrStatic}, {"Integer", 0, api.ErrStatic}, {"Digit", 0, api.ErrStatic}, {"lv", 0, api.ErrStatic},
		{"P", 0, api.ErrStatic},
	})
	tab := world()
	for kind := range api.EnAccept + 2 {
		for _, of := range []bool{false, true} {
			tab.Ents = []api.Ent{{Kind: kind, T: integer, Value: 6, Static: of, Body: true}}
			constant := kind == api.EnNumber || kind == api.EnLiteral || kind == api.EnConst && of
			for _, form := range []api.ExprKind{api.ExName, api.ExSelect} {
				x := api.Expr{Kind: form, S: "x", T: integer}
				if constant {
					gives(t, kind, tab, x, 6, api.OK)
				} else {
					gives(t, kind, tab, x, 0, api.ErrStatic)
				}
				for _, ent := range []int{-1, 1, math.MaxInt, math.MinInt} {
					x.Ent = ent
					gives(t, ent, tab, x, 0, api.ErrStatic)
				}
			}
		}
	}
}

// P7.1: the ranges of types, and integers at their bounds.
func TestRangesOfTypes(t *testing.T) {
	tab := world()
	for _, c := range []struct {
		ty     int
		lo, hi int64
	}{
		{univ, -1 << 62, 1 << 62}, {integer, -1 << 31, 1<<31 - 1}, {small, -1 << 31, 1<<31 - 1}, {boolean, 0, 1}, {color, 0, 2},
	} {
		for _, n := range []int64{c.lo, c.lo + 1, c.hi - 1, c.hi} {
			gives(t, c, tab, api.Expr{Kind: api.ExInt, N: n, T: c.ty}, n, api.OK)
		}
		for _, n := range []int64{c.lo - 1, c.hi + 1, math.MinInt64, math.MaxInt64} {
			gives(t, c, tab, api.Expr{Kind: api.ExInt, N: n, T: c.ty}, 0, api.ErrValue)
		}
	}
	for _, ty := range []int{-1, vector, pair, ref, private, whole, discrete, vague, 13, math.MaxInt, math.MinInt} {
		gives(t, ty, tab, api.Expr{Kind: api.ExInt, T: ty}, 0, api.ErrStatic)
	}
	// Tables that are not valid: universal types with other numbers, and enumerations without literals.
	tab.Types[color].Lits = nil
	tab.Types[whole].Kind = api.TyUniv
	tab.Types[univ].Formal = api.OfPrivate
	tab.Types[integer].Kind = api.TyInt + 20
	gives(t, "no literals", tab, api.Expr{Kind: api.ExInt, T: color}, 0, api.ErrValue)
	gives(t, "universal", tab, api.Expr{Kind: api.ExInt, N: 1 << 62, T: whole}, 1<<62, api.OK)
	gives(t, "type 0", tab, api.Expr{Kind: api.ExInt, N: 1 << 62, T: univ}, 1<<62, api.OK)
	gives(t, "no kind", tab, api.Expr{Kind: api.ExInt, T: integer}, 0, api.ErrStatic)
	gives(t, "no types", api.Table{}, api.Expr{Kind: api.ExInt}, 0, api.ErrStatic)
}

// P7.1: attributes without arguments.
func TestAttributes(t *testing.T) {
	outcomes(t, []outcome{
		{"Integer'First", api.MinBase, api.OK}, {"Integer'Last", api.MaxBase, api.OK}, {"Digit'First", 1, api.OK}, {"Digit'Last", 9, api.OK}, {"P.Digit'Last", 9, api.OK},
		{"Color'First", 0, api.OK}, {"Color'Last", 2, api.OK}, {"Small'First", 5, api.OK}, {"None'First", 5, api.OK}, {"None'Last", 4, api.OK},
		{"Digit'Length", 0, api.ErrStatic}, {"Color'Length", 0, api.ErrStatic}, {"Digit'Pos", 0, api.ErrStatic}, {"Digit'Succ", 0, api.ErrStatic},
		{"Digit'first", 0, api.ErrStatic},
		{"Vector'First", -1, api.OK}, {"Vector'Last", 1, api.OK}, {"Vector'Length", 3, api.OK}, {"Tints'First", 0, api.OK}, {"Tints'Last", 1, api.OK},
		{"Tints'Length", 2, api.OK},
		{"v'First", -1, api.OK}, {"v'Last", 1, api.OK}, {"v'Length", 3, api.OK}, {"P.v'Length", 3, api.OK}, {"t'Last", 1, api.OK}, {"t'Length", 2, api.OK},
		{"cv'Length", 3, api.OK}, {"pv'Length", 3, api.OK}, {"P.pv'First", -1, api.OK}, {"fv'Length", 0, api.ErrStatic}, {"lv'Length", 0, api.ErrStatic},
		{"P'Length", 0, api.ErrStatic},
		{"Whole'First", 0, api.ErrStatic}, {"Discrete'Last", 0, api.ErrStatic}, {"Vague'First", 0, api.ErrStatic}, {"Vague'Length", 0, api.ErrStatic},
		{"g'Last", 0, api.ErrStatic},
		{"pr'First", 0, api.ErrStatic}, {"Pair'Length", 0, api.ErrStatic}, {"Ref'First", 0, api.ErrStatic}, {"n'First", 0, api.ErrStatic}, {"i'First", 0, api.ErrStatic},
		{"v'Aliased_1", 0, api.ErrStatic},
		{"v.all'Length", 0, api.ErrStatic}, {"v (1)'Length", 0, api.ErrStatic}, {"Vector'(v)'Length", 0, api.ErrStatic}, {"Digit'(n)'First", 0, api.ErrStatic},
	})
}

// P7.1: attributes and conversions with an argument, and qualifications.
func TestCalls(t *testing.T) {
	outcomes(t, []outcome{
		{"Color'Pos (Blue)", 2, api.OK}, {"Warm'Pos (Blue)", 2, api.OK}, {"Integer'Pos (-7)", -7, api.OK}, {"Color'Pos (1)", 1, api.OK}, {"Color'Pos (9)", 9, api.OK},
		{"Color'Val (0)", 0, api.OK}, {"Color'Val (2)", 2, api.OK}, {"Color'Val (3)", 0, api.ErrValue}, {"Color'Val (-1)", 0, api.ErrValue}, {"Warm'Val (2)", 2, api.OK},
		{"Integer'Val (k)", 0, api.ErrValue},
		{"Color'Succ (Green)", 2, api.OK}, {"Warm'Succ (Green)", 2, api.OK}, {"Warm'Succ (Blue)", 0, api.ErrValue}, {"Color'Pred (Green)", 0, api.OK},
		{"Color'Pred (Red)", 0, api.ErrValue}, {"P.Color'Pred (Blue)", 1, api.OK},
		{"Integer'Succ (Integer'Last)", 0, api.ErrValue}, {"Integer'Pred (Integer'First)", 0, api.ErrValue}, {"Digit'Succ (9)", 10, api.OK},
		{"Small'Pred (s)", 6, api.OK}, {"Integer'Succ (most)", 0, api.ErrValue},
		{"Whole'Pos (1)", 0, api.ErrStatic}, {"Discrete'Val (0)", 0, api.ErrStatic}, {"Vector'Pos (1)", 0, api.ErrStatic}, {"Color'Succ (i)", 0, api.ErrStatic},
		{"Color'Next (Red)", 0, api.ErrStatic}, {"Color'First (Red)", 0, api.ErrStatic},
		{"i'Pos (1)", 0, api.ErrStatic}, {"n'Succ (1)", 0, api.ErrStatic},
		{"Digit (n)", 3, api.OK}, {"Digit (9)", 9, api.OK}, {"Digit (1)", 1, api.OK}, {"Digit (10)", 0, api.ErrValue}, {"Digit (0)", 0, api.ErrValue},
		{"P.Digit (4)", 4, api.OK}, {"Small (n)", 0, api.ErrValue}, {"Integer (s)", 7, api.OK},
		{"None (5)", 0, api.ErrValue}, {"None (4)", 0, api.ErrValue}, {"Whole (0)", 0, api.ErrStatic}, {"Vector (1)", 0, api.ErrStatic}, {"Digit (i)", 0, api.ErrStatic},
		{"n (1)", 0, api.ErrStatic}, {"fv (1)", 0, api.ErrStatic}, {"v (1)", 0, api.ErrStatic},
		{"Digit (1, 2)", 0, api.ErrStatic}, {"Integer'Pos (1, 2)", 0, api.ErrStatic}, {"Digit (1 / 0)", 0, api.ErrValue}, {"Integer'Pos (1 / 0)", 0, api.ErrValue},
		{"Warm'(Green)", 1, api.OK}, {"P.Warm'(Green)", 1, api.OK}, {"Digit'(0)", 0, api.ErrValue}, {"Digit'(1)", 1, api.OK}, {"Digit'(9)", 9, api.OK},
		{"Digit'(10)", 0, api.ErrValue}, {"Small'(s)", 7, api.OK}, {"Digit'(1 / 0)", 0, api.ErrValue},
		{"Whole'(0)", 0, api.ErrStatic}, {"Digit'(i)", 0, api.ErrStatic}, {"n'(1)", 0, api.ErrStatic}, {"Private'(1)", 0, api.ErrStatic},
	})
}

// P7.1: conditions, operators and tests of membership; of what is not needed nothing is worked out.
func TestConditions(t *testing.T) {
	outcomes(t, []outcome{
		{"(if True then 1 else 2)", 1, api.OK}, {"(if n = 4 then 1 else 2)", 2, api.OK}, {"(if yes then n else 1 / 0)", 3, api.OK},
		{"(if False then 1 / 0 else n)", 3, api.OK},
		{"(if True then 1 / 0 else n)", 0, api.ErrValue}, {"(if False then n else 1 / 0)", 0, api.ErrValue}, {"(if 1 / 0 = 1 then n else n)", 0, api.ErrValue},
		{"(if True then 1 else i)", 0, api.ErrStatic}, {"(if i = 1 then 1 else 2)", 0, api.ErrStatic}, {"(if True then i else 2)", 0, api.ErrStatic},
		{"(if 2 then 1 else 2)", 2, api.OK}, {"(if -1 then 1 else 2)", 2, api.OK}, {"(if 0 then 1 else 2)", 2, api.OK},
		{"(if True then k else n)", 0, api.ErrValue}, {"(if False then k else n)", 3, api.OK},
		{"False and then 1 / 0 = 1", 0, api.OK}, {"True and then 1 / 0 = 1", 0, api.ErrValue}, {"True and then n = 3", 1, api.OK}, {"True and then n = 4", 0, api.OK},
		{"1 / 0 = 1 and then False", 0, api.ErrValue}, {"3 and then 5", 5, api.OK}, {"0 and then 5", 0, api.OK}, {"-1 and then 0", 0, api.OK},
		{"True or else 1 / 0 = 1", 1, api.OK}, {"False or else 1 / 0 = 1", 0, api.ErrValue}, {"False or else n = 3", 1, api.OK}, {"False or else n = 4", 0, api.OK},
		{"1 / 0 = 1 or else True", 0, api.ErrValue}, {"3 or else 5", 1, api.OK}, {"0 or else 5", 5, api.OK}, {"-1 or else 0", 1, api.OK},
		{"False and 1 / 0 = 1", 0, api.ErrValue}, {"True or 1 / 0 = 1", 0, api.ErrValue}, {"False and then i = 1", 0, api.ErrStatic},
		{"True or else i = 1", 0, api.ErrStatic}, {"i = 1 or else True", 0, api.ErrStatic},
		{"n in Digit", 1, api.OK}, {"0 in Digit", 0, api.OK}, {"10 in Digit", 0, api.OK}, {"9 in P.Digit", 1, api.OK}, {"5 in None", 0, api.OK}, {"4 in None", 0, api.OK},
		{"Blue in Warm", 0, api.OK}, {"i in Digit", 0, api.ErrStatic}, {"1 / 0 in Digit", 0, api.ErrValue},
		{"n not in Digit", 0, api.OK}, {"0 not in Digit", 1, api.OK}, {"4 not in None", 1, api.OK}, {"n in Whole", 0, api.ErrStatic}, {"n in Vector", 0, api.ErrStatic},
		{"n in n", 0, api.ErrStatic}, {"n in i", 0, api.ErrStatic}, {"n not in Ref", 0, api.ErrStatic},
		{"n in 1 .. 3", 1, api.OK}, {"n in 3 .. 9", 1, api.OK}, {"n in 4 .. 9", 0, api.OK}, {"n in 1 .. 2", 0, api.OK}, {"n in 3 .. 2", 0, api.OK},
		{"n not in 1 .. 3", 0, api.OK}, {"n not in 4 .. 9", 1, api.OK}, {"n not in 9 .. 1", 1, api.OK},
		{"n in 4 .. 1 / 0", 0, api.ErrValue}, {"n in 1 / 0 .. 2", 0, api.ErrValue}, {"1 / 0 in 1 .. 2", 0, api.ErrValue}, {"n in i .. 9", 0, api.ErrStatic},
		{"n in 1 .. i", 0, api.ErrStatic}, {"n not in 1 .. d", 0, api.ErrStatic}, {"n in Digit .. 9", 0, api.ErrStatic},
		{"null", 0, api.ErrStatic}, {"null = null", 0, api.ErrStatic}, {"(1, 2)", 0, api.ErrStatic}, {"i.all", 0, api.ErrStatic}, {"- i", 0, api.ErrStatic},
		{"n + i", 0, api.ErrStatic}, {"i + n", 0, api.ErrStatic},
	})
}
