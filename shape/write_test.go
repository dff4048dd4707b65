package shape_test

import (
	"fmt"
	"slices"
	"testing"

	"ceiling/api"
	"ceiling/shape"
)

// writes fails the test unless something has these lines, each of a depth below 0 and its tokens.
func (k kind[T]) writes(t *testing.T, x T, want ...line) {
	t.Helper()
	for _, depth := range []int{0, 7, -3} {
		l, e := k.lines(x, depth)
		if e != api.OK || len(l) != len(want) {
			t.Errorf("%v: %v %v", x, l, e)
			return
		}
		for i, y := range l {
			if y.Depth != depth+want[i].depth || !slices.Equal(y.L, unlined(lexed(want[i].s))) {
				t.Errorf("%v, line %d: %d %q", x, i, y.Depth, text(y.L))
			}
		}
		apart(t, l)
	}
}

// P4.2: indications and discrete ranges, and parentheses around their bounds.
func TestSubtypesWritten(t *testing.T) {
	a, rel, and := ex("A"), ex("A = B"), ex("A and B")
	indics.writes(t, indic("T"), line{0, "T"})
	indics.writes(t, indic("A.B.C"), line{0, "A.B.C"})
	indics.writes(t, api.Indic{Name: ex("P.T"), Lo: ex("- A"), Hi: ex("A + 1")}, line{0, "P.T range - A .. A + 1"})
	indics.writes(t, api.Indic{Name: ex("T"), Lo: rel, Hi: and}, line{0, "T range (A = B) .. (A and B)"})
	indics.writes(t, api.Indic{Name: ex("T"), Lo: ex("A in B"), Hi: ex("(A, B)")}, line{0, "T range (A in B) .. (A, B)"})
	indics.writes(t, api.Indic{Name: ex("T"), Value: and}, line{0, "T (A and B)"})
	indics.writes(t, api.Indic{Name: ex("T"), Value: ex("(A, B)")}, line{0, "T ((A, B))"})
	discs.writes(t, api.Disc{Name: ex("T")}, line{0, "T"})
	discs.writes(t, api.Disc{Name: ex("A.B (1)'Range")}, line{0, "A.B (1)'Range"})
	discs.writes(t, api.Disc{Lo: a, Hi: ex("B * 2")}, line{0, "A .. B * 2"})
	discs.writes(t, api.Disc{Lo: rel, Hi: ex("A or else B")}, line{0, "(A = B) .. (A or else B)"})
	discs.writes(t, api.Disc{Name: ex("P.T"), Lo: and, Hi: ex("A not in 1 .. 2")}, line{0, "P.T range (A and B) .. (A not in 1 .. 2)"})
}

// P4.2: parameters, aspects and components.
func TestGroupsWritten(t *testing.T) {
	in := api.Param{Names: []string{"A"}, Mode: api.ModeIn, Type: ex("T"), Line: 5}
	out := api.Param{Names: []string{"B", "C"}, Mode: api.ModeOut, Type: ex("P.T")}
	both := api.Param{Names: []string{"A", "B"}, Mode: api.ModeInOut, Type: ex("T")}
	value := in
	value.E = ex("A = B")
	params.writes(t, nil)
	params.writes(t, []api.Param{})
	params.writes(t, []api.Param{both}, line{0, "A, B : in out T"}) // the chapter's example
	params.writes(t, []api.Param{in}, line{0, "A : T"})
	params.writes(t, []api.Param{out, value, both, in}, line{0, "B, C : out P.T; A : T := A = B; A, B : in out T; A : T"})
	aspects.writes(t, nil)
	aspects.writes(t, []api.Aspect{{Name: "Priority", E: ex("1 + 1")}}, line{0, "Priority => 1 + 1"})
	aspects.writes(t, []api.Aspect{{Name: "A", E: ex("B or C")}, {Name: "B", E: ex("(A, B)")}}, line{0, "A => B or C, B => (A, B)"})
	x := api.Comp{Names: []string{"A"}, Sub: indic("T"), Line: 9}
	y := api.Comp{Names: []string{"B", "C"}, Sub: api.Indic{Name: ex("P.T"), Lo: ex("A = B"), Hi: ex("2")}, E: ex("A and B")}
	z := api.Comp{Names: []string{"D"}, Sub: api.Indic{Name: ex("R"), Value: ex("1")}}
	comps.writes(t, nil, line{0, "null;"})
	comps.writes(t, []api.Comp{x}, line{0, "A : T;"})
	comps.writes(t, []api.Comp{y, x, z}, line{0, "B, C : P.T range (A = B) .. 2 := A and B;"}, line{0, "A : T;"}, line{0, "D : R (1);"})
}

// P4.2: type definitions, and how deep their lines are.
func TestDefinitionsWritten(t *testing.T) {
	x := api.Comp{Names: []string{"A"}, Sub: indic("T")}
	y := api.Comp{Names: []string{"B", "C"}, Sub: indic("P.T"), E: ex("1")}
	others := api.VarArm{Choices: []api.Choice{{Kind: api.ChOthers}}}
	some := api.VarArm{Choices: append(ofExprs("1", "A = B"), api.Choice{Kind: api.ChRange, L: []api.Expr{ex("A = B"), ex("4")}}), Comps: []api.Comp{y, x}}
	for s, d := range map[string]api.TypeDef{
		"(Red)":                       {Kind: api.TdEnum, Names: []string{"Red"}},
		"(Red, Green, Blue)":          {Kind: api.TdEnum, Names: []string{"Red", "Green", "Blue"}},
		"range - 1 .. (A = B)":        {Kind: api.TdRange, Lo: ex("- 1"), Hi: ex("A = B")},
		"new P.T range 1 .. 2":        {Kind: api.TdDerived, Sub: api.Indic{Name: ex("P.T"), Lo: ex("1"), Hi: ex("2")}},
		"array (T) of P.T":            {Kind: api.TdArray, Disc: api.Disc{Name: ex("T")}, Sub: indic("P.T")},
		"array (1 .. 2) of T (1)":     {Kind: api.TdArray, Disc: api.Disc{Lo: ex("1"), Hi: ex("2")}, Sub: api.Indic{Name: ex("T"), Value: ex("1")}},
		"array (T range A .. B) of X": {Kind: api.TdArray, Disc: api.Disc{Name: ex("T"), Lo: ex("A"), Hi: ex("B")}, Sub: indic("X")},
		"access T":                    {Kind: api.TdAccess, Sub: indic("T")},
		"private":                     {Kind: api.TdPrivate},
		"limited private":             {Kind: api.TdPrivate, Limited: true},
		"null record":                 {Kind: api.TdRecord},
	} {
		types.writes(t, d, line{0, s})
	}
	types.writes(t, api.TypeDef{Kind: api.TdRecord, Comps: []api.Comp{x}}, line{0, "record"}, line{1, "A : T;"}, line{0, "end record"}) // the chapter's example
	types.writes(t, api.TypeDef{Kind: api.TdRecord, Var: "D", Arms: []api.VarArm{others}}, line{0, "record"}, line{1, "case D is"}, line{2, "when others =>"}, line{3, "null;"}, line{1, "end case;"}, line{0, "end record"})
	types.writes(t, api.TypeDef{Kind: api.TdRecord, Comps: []api.Comp{x, y}, Var: "D", Arms: []api.VarArm{some, others}},
		line{0, "record"}, line{1, "A : T;"}, line{1, "B, C : P.T := 1;"}, line{1, "case D is"}, line{2, "when 1 | A = B | (A = B) .. 4 =>"}, line{3, "B, C : P.T := 1;"}, line{3, "A : T;"},
		line{2, "when others =>"}, line{3, "null;"}, line{1, "end case;"}, line{0, "end record"})
}

// P4.2: a depth at the ends of int changes nothing but depths.
func TestDepths(t *testing.T) {
	x := api.TypeDef{Kind: api.TdRecord, Comps: groupsOf(1), Var: "D", Arms: []api.VarArm{{Choices: ofExprs("1")}}}
	for _, depth := range []int{-1 << 63, -4, 80, 1<<63 - 1} {
		l, e := shape.TypeLines(x, depth)
		if e != api.OK || len(l) != 7 || l[0].Depth != depth || l[6].Depth != depth {
			t.Error(depth, e)
		}
		if l, e := shape.CompLines(nil, depth); e != api.OK || len(l) != 1 || l[0].Depth != depth {
			t.Error(depth, e)
		}
	}
}

// P4.2: random things, valid or not, against the reference.
func TestRandomWriting(t *testing.T) {
	for _, k := range kinds {
		k.randomWriting(t)
	}
}

func (k kind[T]) randomWriting(t *testing.T) {
	m := newMaker(2)
	good, bad := 0, 0
	for range 3000 {
		x := k.some(m)
		if m.Intn(2) == 0 {
			x = spoiled(m, x)
		}
		before := fmt.Sprint(x)
		if k.ref(x) {
			good++
			k.writes(t, x, k.write(plain, x, 0)...)
		} else if l, e := k.lines(x, 0); len(l) != 0 || e != api.ErrArg {
			t.Errorf("%v: %v %v", x, l, e)
		} else {
			bad++
		}
		if fmt.Sprint(x) != before {
			t.Error("an argument has changed")
		}
		if t.Failed() {
			return
		}
	}
	if good < 1000 || bad < 200 {
		t.Errorf("%T %d %d", *new(T), good, bad)
	}
}
