package scope_test

import (
	"math"
	"reflect"
	"slices"
	"testing"

	"ceiling/api"
	"ceiling/scope"
	"ceiling/table"
)

// predefined has the entities of Standard behind the first one: kind, name, T, Sub and Value.
var predefined = []struct {
	kind   api.EntKind
	name   string
	t, sub int
	value  int64
}{
	{api.EnType, "Integer", 1, 0, 0}, {api.EnType, "Boolean", 2, 1, 0}, {api.EnLiteral, "False", 2, -1, 0}, {api.EnLiteral, "True", 2, -1, 1},
	{api.EnType, "Time", 3, 2, 0}, {api.EnSub, "Natural", 1, 3, 0}, {api.EnSub, "Positive", 1, 4, 0}, {api.EnExc, "Constraint_Error", -1, -1, 1},
	{api.EnExc, "Program_Error", -1, -1, 2}, {api.EnExc, "Tasking_Error", -1, -1, 3}, {api.EnExc, "End_Error", -1, -1, 4},
	{api.EnProc, "Put", -1, -1, 0}, {api.EnProc, "Get", -1, -1, 0}, {api.EnFunc, "Clock", 3, 2, 0},
}

// P8.1: every field of every row of Standard.
func TestStandard(t *testing.T) {
	ty := func(kind api.TyKind, name string, first int, lits ...string) api.Ty {
		return api.Ty{Kind: kind, Name: name, First: first, Lits: lits, Parent: -1, Index: -1, Elem: -1, Disc: -1, Target: -1, Priv: -1}
	}
	want := api.Table{
		Types: []api.Ty{ty(api.TyUniv, "", -1), ty(api.TyInt, "Integer", 0), ty(api.TyEnum, "Boolean", 1, "False", "True"), ty(api.TyInt, "Time", 2)},
		Subs:  []api.Subt{{T: 1, Lo: -2147483648, Hi: 2147483647}, {T: 2, Lo: 0, Hi: 1}, {T: 3, Lo: 0, Hi: 2147483647}, {T: 1, Lo: 0, Hi: 2147483647}, {T: 1, Lo: 1, Hi: 2147483647}},
		Ents:  []api.Ent{{Kind: api.EnStandard, Name: "Standard", Owner: -1, T: -1, Sub: -1, Of: -1, Body: true, Final: -1, Unit: -1}},
	}
	for _, p := range predefined {
		want.Ents = append(want.Ents, api.Ent{Kind: p.kind, Name: p.name, T: p.t, Sub: p.sub, Of: -1, Value: p.value, Body: true, Final: -1, Unit: -1})
	}
	want.Ents[12].Params = []api.ParamRow{{Name: "X", Mode: api.ModeIn, Ent: -1}}
	want.Ents[13].Params = []api.ParamRow{{Name: "X", Mode: api.ModeOut, Ent: -1}}
	got := scope.Standard()
	if !reflect.DeepEqual(got, want) {
		t.Error(got)
	}
	if !table.May(got) {
		t.Error("not valid")
	}
}

// P8.1: in Standard no two entities are homographs, so that each name finds one.
func TestStandardIsAdded(t *testing.T) {
	all := scope.Standard()
	tab := all
	tab.Ents = nil
	for i, x := range all.Ents {
		var e api.Errno
		if tab, e = scope.Add(tab, x); e != api.OK {
			t.Error(x.Name, e)
		}
		if l := scope.Find(all, api.Where{After: len(all.Ents)}, x.Name); i > 0 && !slices.Equal(l, []int{i}) {
			t.Error(x.Name, l)
		}
	}
	if !reflect.DeepEqual(tab, all) {
		t.Error(tab)
	}
}

// P8.1: which rows Add refuses beside others.
func TestAddTwice(t *testing.T) {
	for _, c := range []struct {
		there, x string
		want     api.Errno
	}{
		{"var v 0 1", "var v 0 1", api.ErrTwice}, {"var v 0 1", "var v 0 2", api.ErrTwice}, {"var v 0 1", "var w 0 1", api.OK}, {"var v 0 1", "var V 0 1", api.OK},
		{"var v 0 1", "var v 12 1", api.OK}, {"var v 12 1", "var v 12 1", api.ErrTwice}, {"var v -1 1", "var v -1 1", api.ErrTwice},
		{"var v 77 1", "var v 77 1", api.ErrTwice}, {"var v 77 1", "var v -1 1", api.OK},
		{"var v 0 1", "var v 0 1 private", api.ErrTwice}, {"var v 0 1 body", "var v 0 1", api.ErrTwice}, {"package v 0 -1 unit", "package v 0 -1", api.ErrTwice},
		{"package v 0 -1 of=1 ren", "package v 0 -1", api.ErrTwice}, {"package v 0 -1 generic", "package v 0 -1", api.ErrTwice},
		{"label - 0 -1", "label - 0 -1", api.OK}, {"func - 0 1", "func - 0 1", api.OK},
		{"proc v 0 -1", "var v 0 -1", api.ErrTwice}, {"var v 0 -1", "proc v 0 -1", api.ErrTwice}, {"proc v 0 -1 par=0", "var v 0 1", api.ErrTwice},
		{"proc v 0 -1", "proc v 0 -1", api.ErrTwice}, {"proc v 0 -1", "func v 0 -1", api.ErrTwice}, {"proc v 0 -1", "func v 0 1", api.OK},
		{"func v 0 1", "func v 0 2", api.OK}, {"func v 0 1", "literal v 0 1", api.ErrTwice}, {"func v 0 1", "literal v 0 2", api.OK},
		{"literal v 0 1", "literal v 0 1", api.ErrTwice}, {"literal v 0 1", "literal v 0 4", api.OK}, {"proc v 0 -1 par=0", "entry v 0 -1 par=0", api.ErrTwice},
		{"proc v 0 -1 par=0", "proc v 0 -1", api.OK}, {"proc v 0 -1", "proc v 0 -1 par=0", api.OK}, {"proc v 0 -1 par=0", "proc v 0 -1 par=3", api.ErrTwice},
		{"proc v 0 -1 par=4", "proc v 0 -1 par=3", api.ErrTwice}, {"proc v 0 -1 par=0", "proc v 0 -1 par=1", api.OK},
		{"proc v 0 -1 par=0 par=1", "proc v 0 -1 par=1 par=0", api.OK}, {"proc v 0 -1 par=0 par=1", "proc v 0 -1 par=3 par=1", api.ErrTwice},
		{"proc v 0 -1 par=0 par=1", "proc v 0 -1 par=3 par=2", api.OK}, {"proc v 0 -1 par=0 par=0", "proc v 0 -1 par=0", api.OK},
		{"proc v 0 -1 par=-1", "proc v 0 -1 par=5", api.ErrTwice}, {"proc v 0 -1 par=-9", "proc v 0 -1 par=2147483647", api.ErrTwice},
		{"proc v 0 -1 par=0", "proc v 0 -1 par=5", api.OK}, {"func v 0 1 par=0", "func v 0 1 par=4", api.ErrTwice}, {"func v 0 1 par=0", "func v 0 2 par=0", api.OK},
		{"type v 0 1", "func v 0 1", api.ErrTwice}, {"task v 0 -1", "proc v 0 -1", api.ErrTwice}, {"exc v 0 -1", "literal v 0 2", api.ErrTwice},
		{"loop v 0 1", "func v 0 1 par=1", api.ErrTwice}, {"none v 0 1", "func v 0 1 par=1", api.ErrTwice},
	} {
		tab := build(t, scope.Standard(), c.there)
		before := copied(tab)
		x := row(t, c.x)
		got, e := scope.Add(tab, x)
		if e != c.want || !reflect.DeepEqual(tab, before) {
			t.Error(c, e)
		}
		if e != api.OK {
			if !reflect.DeepEqual(got, api.Table{}) {
				t.Error(c, got)
			}
			continue
		}
		before.Ents = append(before.Ents, x)
		if !reflect.DeepEqual(got, before) {
			t.Error(c, got)
		}
	}
}

// P8.1: the mode, the name, the default value and the entity of a parameter are not in the profile, nor is the subtype of a result.
func TestProfileHasTypesAlone(t *testing.T) {
	tab := build(t, scope.Standard(), "func v 0 1 par=0")
	x := row(t, "func v 0 1")
	x.Sub, x.Params = 4, []api.ParamRow{{Name: "Other", Mode: api.ModeInOut, Sub: 3, Def: api.Expr{Kind: api.ExInt}, Ent: 7}}
	if _, e := scope.Add(tab, x); e != api.ErrTwice {
		t.Error(e)
	}
	// A subtype whose type does not exist counts as that number; -1 is also that of a subtype that does not exist.
	tab.Subs = append(tab.Subs, api.Subt{T: -1}, api.Subt{T: 99})
	tab = build(t, tab, "func w 0 1 par=5", "func w 1 1 par=9", "func w 2 1 par=6", "func w 3 1 par=0")
	for a, row := range []string{"1100", "1100", "0010", "0001"} {
		for b, want := range row {
			if got := scope.Profile(tab, 16+a, 16+b); got != (want == '1') {
				t.Error(a, b, got)
			}
		}
	}
}

// P8.1: Add at the limit of entities, which counts more than a homograph.
func TestAddLong(t *testing.T) {
	tab := scope.Standard()
	for len(tab.Ents) < api.MaxEnts-1 {
		tab.Ents = append(tab.Ents, row(t, "label - 0 -1"))
	}
	twin := row(t, "exc Integer 0 -1")
	if _, e := scope.Add(tab, twin); e != api.ErrTwice {
		t.Error(e)
	}
	tab, e := scope.Add(tab, row(t, "var last 0 1"))
	if e != api.OK || len(tab.Ents) != 4096 || tab.Ents[4095].Name != "last" {
		t.Error(len(tab.Ents), e)
	}
	for range 3 {
		for _, x := range []api.Ent{twin, row(t, "var other 0 1"), row(t, "label - 0 -1")} {
			if u, e := scope.Add(tab, x); e != api.ErrLong || !reflect.DeepEqual(u, api.Table{}) {
				t.Error(e)
			}
		}
		tab.Ents = append(tab.Ents, row(t, "label - 0 -1"))
	}
}

// P8.1: Add keeps all other lists, and uses no memory of its arguments that is not theirs to share.
func TestAddKeeps(t *testing.T) {
	tab := scope.Standard()
	tab.Gens = []api.GenRow{{Ent: 3, Forms: []api.FormRow{{Box: true}}}}
	tab.Insts = []api.InstRow{{Ent: 5, Gen: 3}}
	tab.Ents = slices.Grow(tab.Ents, 50)
	x := row(t, "proc p 0 -1 par=0")
	a, _ := scope.Add(tab, x)
	b, _ := scope.Add(tab, row(t, "var v 0 1"))
	x.Params[0].Sub = 1
	if want := row(t, "proc p 0 -1 par=0"); len(a.Ents) != 16 || !reflect.DeepEqual(a.Ents[15], want) {
		t.Error(a.Ents[15])
	}
	if len(b.Ents) != 16 || b.Ents[15].Name != "v" || len(tab.Ents) != 15 || tab.Ents[:16][15].Name != "" {
		t.Error(b.Ents[15], tab.Ents[:16][15])
	}
	if !reflect.DeepEqual(a.Gens, tab.Gens) || !reflect.DeepEqual(a.Insts, tab.Insts) || !reflect.DeepEqual(a.Types, tab.Types) || !reflect.DeepEqual(a.Subs, tab.Subs) {
		t.Error(a)
	}
	u, e := scope.Add(api.Table{}, row(t, "proc p 3 9 par=8 of=4 ren"))
	if e != api.OK || len(u.Ents) != 1 || u.Types != nil {
		t.Error(u, e)
	}
}

// P8.1: Base follows renamings as long as what is renamed is less.
func TestBase(t *testing.T) {
	tab := build(t, scope.Standard(),
		"exc E 0 -1 of=8 ren",      // 15
		"exc F 0 -1 of=15 ren",     // 16
		"exc G 0 -1 of=16 ren",     // 17
		"package H 0 -1 of=16",     // 18: an instance
		"package I 0 -1 of=18 ren", // 19
		"var J 0 1 ren",            // 20: of nothing
		"var K 0 1 of=21 ren",      // 21: of itself
		"var L 0 1 of=23 ren",      // 22: of a later one
		"var M 0 1 of=22 ren",      // 23
		"var N 0 1 of=0 ren",       // 24
		"var O 0 1 of=99 ren",      // 25
	)
	for ent, want := range map[int]int{0: 0, 8: 8, 14: 14, 15: 8, 16: 8, 17: 8, 18: 18, 19: 18, 20: 20, 21: 21, 22: 22, 23: 22, 24: 0, 25: 25, 26: -1, -1: -1, -2: -1, math.MaxInt: -1, math.MinInt: -1} {
		if got := scope.Base(tab, ent); got != want {
			t.Error(ent, got)
		}
	}
}

// P8.1: Inside goes through Owners, as long as they are less.
func TestInside(t *testing.T) {
	tab := build(t, scope.Standard(),
		"package A 0 -1", // 15
		"proc p 15 -1",   // 16
		"label - 16 -1",  // 17
		"package B 0 -1", // 18
		"var v 18 1",     // 19
		"proc q 20 -1",   // 20: in itself
		"proc r 22 -1",   // 21: in a later one
		"proc s 21 -1",   // 22
		"proc u -1 -1",   // 23
		"proc v 99 -1",   // 24
	)
	for region, want := range map[int][]int{
		0: {0}, 1: {0, 1}, 15: {0, 15}, 16: {0, 15, 16}, 17: {0, 15, 16, 17}, 18: {0, 18}, 19: {0, 18, 19}, 20: {20}, 21: {21}, 22: {21, 22}, 23: {23}, 24: {24},
		25: nil, -1: nil, math.MaxInt: nil, math.MinInt: nil,
	} {
		for _, outer := range []int{math.MinInt, -2, -1, 0, 1, 2, 14, 15, 16, 17, 18, 19, 20, 21, 22, 23, 24, 25, 99, math.MaxInt} {
			if got := scope.Inside(tab, region, outer); got != slices.Contains(want, outer) {
				t.Error(region, outer, got)
			}
		}
	}
}

// P8.1: Profile and Homographs of all pairs of some entities.
func TestProfileAndHomographs(t *testing.T) {
	tab := build(t, scope.Standard(),
		"func f 0 1",           // 15
		"literal f 12 1",       // 16
		"func g 0 1",           // 17: another name
		"func f 12 2",          // 18
		"var f 13 1",           // 19: not overloadable
		"proc f 14 -1 par=0",   // 20
		"entry f 15 -1 par=4",  // 21
		"const f 16 1 par=0",   // 22: with parameters, which it should not have
		"label - 0 1",          // 23
		"label - 0 1",          // 24
		"proc - 0 -1 par=0",    // 25: without a name
		"entry - 12 -1 par=-1", // 26
		"func - 12 -1 par=3",   // 27
	)
	profiles := []string{"15 16 17 19 23 24", "20 21 25 27", "18", "22", "26"}
	homographs := []string{
		"15 15", "15 16", "15 19", "15 22", "16 16", "16 19", "16 22", "17 17", "18 18", "18 19", "18 22", "19 19", "19 20", "19 21", "19 22", "20 20", "20 21", "20 22", "21 21",
		"21 22", "22 22", "23 23", "23 24", "23 25", "23 26", "23 27", "24 24", "24 25", "24 26", "24 27", "25 25", "25 27", "26 26", "27 27",
	}
	for a := 15; a < 28; a++ {
		for b := 15; b < 28; b++ {
			same := slices.ContainsFunc(profiles, func(l string) bool { return slices.Contains(numbers(t, l), a) && slices.Contains(numbers(t, l), b) })
			if got := scope.Profile(tab, a, b); got != same {
				t.Error("profile", a, b, got)
			}
			twins := slices.ContainsFunc(homographs, func(l string) bool { return slices.Equal(numbers(t, l), []int{min(a, b), max(a, b)}) })
			if got := scope.Homographs(tab, a, b); got != twins {
				t.Error("homographs", a, b, got)
			}
		}
	}
	for _, no := range []int{-1, 28, math.MaxInt, math.MinInt} {
		for _, x := range []int{0, 15, no} {
			if scope.Profile(tab, no, x) || scope.Profile(tab, x, no) || scope.Homographs(tab, no, x) || scope.Homographs(tab, x, no) {
				t.Error(no, x)
			}
		}
	}
}

// P8.1: entities of all kinds, those that do not exist included: which can be overloaded.
func TestOverloadable(t *testing.T) {
	for a := range api.EntKind(22) {
		for b := range api.EntKind(22) {
			tab := api.Table{Ents: []api.Ent{{Kind: a, Name: "x", T: 1}, {Kind: b, Name: "x", T: 2}}}
			may := func(k api.EntKind) bool {
				return slices.Contains([]api.EntKind{api.EnProc, api.EnFunc, api.EnEntry, api.EnLiteral}, k)
			}
			if got := scope.Homographs(tab, 0, 1); got == (may(a) && may(b)) {
				t.Error(a, b, got)
			}
		}
	}
}
