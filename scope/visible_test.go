package scope_test

import (
	"math"
	"reflect"
	"slices"
	"testing"

	"ceiling/api"
	"ceiling/scope"
)

// at returns a place.
func at(region, after int, units, uses []int) api.Where {
	return api.Where{Region: region, After: after, Units: units, Uses: uses}
}

func finds(t *testing.T, tab api.Table, w api.Where, name string, want ...int) {
	t.Helper()
	if got := scope.Find(tab, w, name); !slices.Equal(got, want) {
		t.Error("Find", w, name, got, "not", want)
	}
}

func selects(t *testing.T, tab api.Table, w api.Where, owner int, name string, want ...int) {
	t.Helper()
	if got := scope.Select(tab, w, owner, name); !slices.Equal(got, want) {
		t.Error("Select", w, owner, name, got, "not", want)
	}
}

// P8.2: the examples of the chapter.
func TestExamples(t *testing.T) {
	tab := build(t, scope.Standard(), "package P 0 -1 unit", "var x 15 1", "func f 15 1", "var y 15 1 private", "proc Q 0 -1 unit", "func f 19 2", "const x 19 1")
	w := at(19, 22, []int{15}, []int{15})
	finds(t, tab, w, "f", 17, 20)
	finds(t, tab, w, "x", 21)
	finds(t, tab, w, "y")
	finds(t, tab, w, "P", 15)
	finds(t, tab, w, "True", 4)
	selects(t, tab, w, 15, "x", 16)
	selects(t, tab, w, 15, "y")
	selects(t, tab, w, 19, "x", 21)
	w = at(19, 22, nil, nil)
	finds(t, tab, w, "f", 20)
	finds(t, tab, w, "P")
	w = at(15, 19, nil, nil)
	finds(t, tab, w, "y", 18)
	selects(t, tab, w, 15, "y", 18)
}

// world returns a table with regions of all sorts, and the library units in it.
func world(t *testing.T) (api.Table, []int) {
	return build(t, scope.Standard(),
		"package A 0 -1 unit",           // 15
		"var v 15 1",                    // 16
		"func f 15 1",                   // 17
		"func g 15 1",                   // 18
		"proc p 15 -1 private",          // 19
		"package B 0 -1 unit",           // 20
		"var v 20 1",                    // 21
		"func f 20 1",                   // 22: a homograph of 17
		"const g 20 1",                  // 23
		"package C 0 -1 unit generic",   // 24
		"func f 24 2",                   // 25
		"func g 24 2",                   // 26
		"func h 24 1",                   // 27
		"package R 0 -1 unit of=15 ren", // 28
		"proc Main 0 -1 unit",           // 29
		"label - 29 -1",                 // 30
		"func f 30 1",                   // 31
		"label Inner 30 -1",             // 32
		"func f 32 2",                   // 33
		"var h 32 1",                    // 34
		"task T 29 -1",                  // 35
		"entry E 35 -1 par=0",           // 36
		"entry E 35 -1 par=1",           // 37
		"entry F 35 -1 private",         // 38
		"prot O 29 -1",                  // 39
		"func f 39 1",                   // 40
		"var c 39 1 private",            // 41
		"package D 29 -1",               // 42
		"var v 42 1",                    // 43
		"var w 42 1 private",            // 44
		"var z 42 1 body",               // 45
		"package - 0 -1",                // 46
		"var v 46 1",                    // 47
		"package S 0 -1 of=35 ren",      // 48: a renaming of a task
	), []int{15, 20, 24, 28, 29}
}

// P8.2: what is directly visible.
func TestFindDirectly(t *testing.T) {
	tab, units := world(t)
	all := len(tab.Ents)
	w := at(32, all, units, nil)
	finds(t, tab, w, "f", 31, 33) // other profiles
	finds(t, tab, w, "h", 34)
	finds(t, tab, w, "v")
	finds(t, tab, w, "T", 35)
	finds(t, tab, w, "A", 15)
	finds(t, tab, w, "Main", 29)
	finds(t, tab, w, "Inner", 32)
	finds(t, tab, w, "Integer", 1)
	finds(t, tab, w, "integer")
	finds(t, tab, w, "Standard") // in no region
	finds(t, tab, w, "")
	finds(t, tab, w, "E")
	finds(t, tab, at(36, all, units, nil), "E", 36, 37)
	finds(t, tab, at(38, all, units, nil), "F", 38)
	finds(t, tab, at(42, all, units, nil), "z", 45)
	finds(t, tab, at(42, all, units, nil), "w", 44)
	finds(t, tab, at(34, all, units, nil), "h", 34) // any entity is a region
	finds(t, tab, at(29, all, units, nil), "f")

	// Units: each region lies in its own unit.
	finds(t, tab, at(32, all, nil, nil), "A")
	finds(t, tab, at(32, all, []int{20, 16, -1}, nil), "A")
	finds(t, tab, at(32, all, []int{20, 15, 15}, nil), "A", 15)
	finds(t, tab, at(32, all, nil, nil), "Main", 29)
	finds(t, tab, at(16, all, nil, nil), "A", 15)
	finds(t, tab, at(16, all, nil, nil), "B")
	finds(t, tab, at(16, all, nil, nil), "v", 16)
	finds(t, tab, at(32, all, nil, nil), "S", 48) // no library unit
	finds(t, tab, at(0, all, nil, nil), "Main")
	finds(t, tab, at(0, all, []int{29}, nil), "Main", 29)

	// Declared before the place.
	finds(t, tab, at(32, 33, units, nil), "f", 31)
	finds(t, tab, at(32, 34, units, nil), "f", 31, 33)
	finds(t, tab, at(32, 31, units, nil), "f")
	finds(t, tab, at(32, 15, units, nil), "A")
	finds(t, tab, at(32, 16, units, nil), "A", 15)
	finds(t, tab, at(32, 0, units, nil), "Integer")
	finds(t, tab, at(32, 1, units, nil), "Integer")
	finds(t, tab, at(32, 2, units, nil), "Integer", 1)
	finds(t, tab, at(32, -1, units, nil), "Integer")
	finds(t, tab, at(32, math.MinInt, units, nil), "Integer")
	finds(t, tab, at(32, math.MaxInt, units, nil), "f", 31, 33)

	for _, region := range []int{-1, all, math.MaxInt, math.MinInt} {
		finds(t, tab, at(region, all, units, nil), "Integer")
		finds(t, tab, at(region, all, units, nil), "A")
		finds(t, tab, at(region, all, units, []int{15}), "f", 17)
	}
}

// P8.2: an entity hides its homographs further outside alone, and only if it is visible itself.
func TestFindHides(t *testing.T) {
	tab := build(t, scope.Standard(),
		"proc A 0 -1",     // 15
		"func f 15 1",     // 16
		"func f 15 2",     // 17
		"func f 15 3",     // 18
		"var k 15 1",      // 19
		"func Clock 15 3", // 20: a homograph of 14
		"proc Put 15 -1",  // 21: none of 12
		"proc B 15 -1",    // 22
		"var f 22 1",      // 23: hides all outside
		"literal k 22 1",  // 24: hides 19
		"proc C 22 -1",    // 25
		"func f 25 2",     // 26: hides 23, so that 16 and 18 are visible again
		"func k 25 2",     // 27
		"proc D 25 -1",    // 28
		"var Put 28 1",    // 29
	)
	all := len(tab.Ents)
	for _, c := range []struct {
		region int
		name   string
		want   []int
	}{
		{15, "f", []int{16, 17, 18}}, {22, "f", []int{23}}, {25, "f", []int{16, 18, 26}}, {28, "f", []int{16, 18, 26}},
		{15, "k", []int{19}}, {22, "k", []int{24}}, {25, "k", []int{24, 27}},
		{0, "Clock", []int{14}}, {28, "Clock", []int{20}}, {0, "Put", []int{12}}, {15, "Put", []int{12, 21}}, {25, "Put", []int{12, 21}}, {28, "Put", []int{29}},
		{16, "f", []int{16, 17, 18}},
	} {
		finds(t, tab, at(c.region, all, nil, nil), c.name, c.want...)
	}
	finds(t, tab, at(25, 26, nil, nil), "f", 23)
	finds(t, tab, at(25, 23, nil, nil), "f", 16, 17, 18)
	// Homographs in one region do not hide each other.
	tab = build(t, tab, "var f 28 1", "var f 28 2", "func f 28 3")
	finds(t, tab, at(28, 33, nil, nil), "f", 30, 31, 32)
}

// P8.2: what is visible by use.
func TestFindByUse(t *testing.T) {
	tab, units := world(t)
	all := len(tab.Ents)
	for _, c := range []struct {
		region int
		uses   []int
		name   string
		want   []int
	}{
		{29, []int{15, 20}, "f", []int{17, 22}}, {29, []int{20, 15}, "f", []int{17, 22}}, {32, []int{15, 20}, "f", []int{31, 33}},
		{29, []int{15, 20}, "v", nil}, {29, []int{15, 20}, "g", nil}, {29, []int{15}, "v", []int{16}}, {29, []int{20}, "v", []int{21}},
		{29, []int{15}, "g", []int{18}}, {29, []int{20}, "g", []int{23}}, {29, []int{15, 24}, "g", []int{18, 26}}, {29, []int{15, 20, 24}, "g", nil},
		{29, []int{24, 20}, "g", nil}, {29, []int{15, 20, 24}, "f", []int{17, 22, 25}}, {29, []int{24}, "h", []int{27}}, {32, []int{24}, "h", []int{34}},
		{29, []int{15}, "p", nil}, {15, []int{15}, "p", []int{19}}, {15, []int{15}, "v", []int{16}}, {19, []int{15, 15, 28}, "v", []int{16}}, // used in itself
		{15, []int{20}, "v", []int{16}}, {15, []int{20}, "f", []int{17}}, {15, []int{24}, "f", []int{17, 25}}, {15, []int{24}, "g", []int{18, 26}},
		{20, []int{24}, "g", []int{23}},
		{29, []int{28}, "v", []int{16}}, {29, []int{15, 28, 15}, "v", []int{16}}, {29, []int{28, 20}, "v", nil}, {29, []int{28, 15}, "f", []int{17}}, // a renaming
		{29, []int{42}, "v", []int{43}}, {29, []int{42}, "w", nil}, {29, []int{42}, "z", nil}, {29, []int{42, 15}, "v", nil}, {42, []int{15, 20}, "v", []int{43}},
		{29, []int{46}, "v", []int{47}},
		{29, []int{35, 39, 30, 32, 29, 48}, "E", nil}, {29, []int{35, 39, 30, 32, 29, 48}, "f", nil}, {29, []int{16, 17, 0}, "v", nil}, // no packages
		{29, []int{-1, all, math.MaxInt, math.MinInt}, "v", nil}, {29, []int{-1, 99, 15}, "v", []int{16}}, {29, []int{15}, "", nil}, {29, nil, "v", nil},
		{-1, []int{15, 20}, "f", []int{17, 22}}, {all, []int{15, 20}, "g", nil},
	} {
		finds(t, tab, at(c.region, all, units, c.uses), c.name, c.want...)
		// What is used need not be one of the units.
		finds(t, tab, at(c.region, all, nil, c.uses), c.name, c.want...)
	}
	both := []int{15, 20}
	finds(t, tab, at(29, 22, units, both), "f", 17)
	finds(t, tab, at(29, 23, units, both), "f", 17, 22)
	finds(t, tab, at(29, 23, units, both), "g", 18) // 23 comes behind the place
	finds(t, tab, at(29, 21, units, both), "v", 16)
	finds(t, tab, at(29, 16, units, both), "v")
	finds(t, tab, at(29, 17, units, []int{48, 28}), "v", 16) // the packages themselves may come behind it

	// A library unit hides what is used, but only where it can be named.
	tab = build(t, tab, "package v 0 -1 unit")
	finds(t, tab, at(29, all+1, units, []int{15}), "v", 16)
	finds(t, tab, at(29, all+1, []int{all}, []int{15}), "v", all)
	finds(t, tab, at(29, all, []int{all}, []int{15}), "v", 16)
	// What is hidden from the place hides nothing that is used.
	tab = build(t, scope.Standard(), "package P 0 -1", "func f 15 1", "proc A 0 -1", "var f 17 1", "proc B 17 -1", "func f 19 2")
	finds(t, tab, at(19, 21, nil, []int{15}), "f", 16, 20)
	finds(t, tab, at(17, 21, nil, []int{15}), "f", 18)
}

// P8.2: of what is used, what is hidden from the place clashes with nothing, and of two that clash both are hidden.
func TestFindClashes(t *testing.T) {
	tab := build(t, scope.Standard(),
		"package P 0 -1", // 15
		"var f 15 1",     // 16
		"package Q 0 -1", // 17
		"func f 17 1",    // 18
		"package R 0 -1", // 19
		"func f 19 2",    // 20
		"func f 19 3",    // 21
		"proc A 0 -1",    // 22
		"literal f 22 2", // 23
		"proc B 22 -1",   // 24
		"type f 24 1",    // 25
		"package S 0 -1", // 26
		"exc x 26 -1",    // 27
		"exc x 26 -1",    // 28: a homograph in one region
		"func x 26 1",    // 29
	)
	for _, c := range []struct {
		region int
		uses   []int
		name   string
		want   []int
	}{
		{0, []int{15, 17, 19}, "f", nil}, {0, []int{17, 19}, "f", []int{18, 20, 21}}, {0, []int{15, 19}, "f", nil}, {0, []int{15}, "f", []int{16}},
		{22, []int{15, 17, 19}, "f", []int{18, 21, 23}}, {22, []int{15}, "f", []int{23}}, {24, []int{15, 17, 19}, "f", []int{25}},
		{0, []int{26}, "x", []int{27, 28, 29}}, {0, []int{26, 15}, "x", []int{27, 28, 29}},
	} {
		finds(t, tab, at(c.region, len(tab.Ents), nil, c.uses), c.name, c.want...)
	}
}

// P8.2: Select in regions of all sorts.
func TestSelect(t *testing.T) {
	tab, units := world(t)
	all := len(tab.Ents)
	for _, c := range []struct {
		region, owner int
		name          string
		want          []int
	}{
		{29, 15, "v", []int{16}}, {29, 15, "f", []int{17}}, {29, 15, "p", nil}, {17, 15, "p", []int{19}}, {29, 15, "w", nil}, {29, 15, "", nil},
		{29, 28, "v", []int{16}}, {29, 28, "p", nil}, {19, 28, "p", []int{19}}, {28, 28, "p", nil}, // a renaming
		{29, 24, "f", nil}, {24, 24, "f", []int{25}}, {27, 24, "g", []int{26}}, // a generic package
		{29, 35, "E", []int{36, 37}}, {29, 35, "F", nil}, {37, 35, "F", []int{38}}, {29, 48, "E", []int{36, 37}}, {29, 48, "F", nil}, {35, 48, "F", []int{38}},
		{15, 39, "f", []int{40}}, {29, 39, "c", nil}, {40, 39, "c", []int{41}},
		{29, 42, "v", []int{43}}, {29, 42, "w", nil}, {29, 42, "z", nil}, {42, 42, "w", []int{44}}, {43, 42, "z", []int{45}},
		{32, 30, "f", []int{31}}, {30, 30, "f", []int{31}}, {29, 30, "f", nil}, {15, 30, "f", nil}, {33, 32, "f", []int{33}}, {32, 29, "T", []int{35}}, {36, 29, "O", []int{39}},
		{15, 29, "T", nil}, {0, 29, "T", nil}, {16, 16, "v", nil}, {31, 31, "f", nil},
		{29, 0, "Put", []int{12}}, {-1, 0, "Put", []int{12}}, {all, 0, "True", []int{4}}, {29, 0, "Standard", nil}, {29, 0, "f", nil}, {29, 0, "D", nil}, {29, 0, "S", []int{48}},
		{-1, 15, "v", []int{16}}, {-1, 29, "T", nil}, {-1, -1, "v", nil}, {29, -1, "v", nil}, {29, all, "v", nil}, {29, math.MaxInt, "v", nil}, {29, math.MinInt, "Put", nil},
	} {
		selects(t, tab, at(c.region, all, units, nil), c.owner, c.name, c.want...)
		selects(t, tab, at(c.region, all, nil, []int{15, 20, 42}), c.owner, c.name, c.want...)
		selects(t, tab, at(c.region, all, units, nil), c.owner, "")
	}
	// Library units in Standard.
	selects(t, tab, at(32, all, nil, nil), 0, "A")
	selects(t, tab, at(32, all, []int{20}, nil), 0, "A")
	selects(t, tab, at(32, all, []int{15}, nil), 0, "A", 15)
	selects(t, tab, at(17, all, nil, nil), 0, "A", 15)
	selects(t, tab, at(32, all, nil, nil), 0, "Main", 29)
	selects(t, tab, at(-1, all, nil, nil), 0, "Main")
	selects(t, tab, at(-1, all, []int{29}, nil), 0, "Main", 29)
	// Declared before the place.
	selects(t, tab, at(29, 16, nil, nil), 15, "v")
	selects(t, tab, at(29, 17, nil, nil), 15, "v", 16)
	selects(t, tab, at(29, 37, nil, nil), 35, "E", 36)
	selects(t, tab, at(29, 16, units, nil), 28, "f")
	selects(t, tab, at(29, 18, units, nil), 28, "f", 17) // the renaming itself comes behind it
	selects(t, tab, at(29, -5, units, nil), 15, "f")
	selects(t, tab, at(29, math.MaxInt, units, nil), 15, "f", 17)
	// A Unit in another region is no library unit.
	tab.Ents[16].Unit = 0
	selects(t, tab, at(29, all, nil, nil), 15, "v", 16)
	finds(t, tab, at(15, all, nil, nil), "v", 16)
	// Homographs are not hidden from each other, and neither from others.
	tab = build(t, tab, "var f 15 1", "var f 0 1", "standard X 42 1", "var k 51 1 private", "package Y 51 1 unit")
	selects(t, tab, at(29, 54, nil, nil), 15, "f", 17, 49)
	selects(t, tab, at(29, 54, nil, nil), 51, "k", 52)
	selects(t, tab, at(29, 54, nil, nil), 51, "Y", 53)
}

// P8.2: of which kinds what is declared in an entity can be selected from outside.
func TestSelectFromKinds(t *testing.T) {
	for kind := range api.EntKind(22) {
		for part := range api.PartKind(5) {
			for _, generic := range []bool{false, true} {
				tab := build(t, scope.Standard(), "none R 0 -1", "var x 15 1", "proc Q 0 -1")
				tab.Ents[15].Kind, tab.Ents[15].Generic, tab.Ents[16].Part = kind, generic, part
				open := kind == api.EnTask || kind == api.EnProt || kind == api.EnPackage && !generic
				var want []int
				if kind == api.EnStandard || open && part == api.PaVisible {
					want = []int{16}
				}
				selects(t, tab, at(17, 18, nil, nil), 15, "x", want...)
				selects(t, tab, at(16, 18, nil, nil), 15, "x", 16)
				var used []int
				if kind == api.EnPackage && part == api.PaVisible {
					used = []int{16}
				}
				finds(t, tab, at(17, 18, nil, []int{15}), "x", used...)
			}
		}
	}
}

// P8.2: Full of types with and without a package that hides them.
func TestFull(t *testing.T) {
	tab, _ := world(t)
	ty := func(priv, full int) int {
		tab.Types = append(tab.Types, api.Ty{Kind: api.TyInt, Priv: priv, Full: full})
		return len(tab.Types) - 1
	}
	for _, c := range []struct {
		ty, region, after int
		want              bool
	}{
		{0, -1, 0, true}, {1, 0, 0, true}, {3, 99, -1, true}, {4, 0, 0, false}, {-1, 0, 99, false}, {math.MaxInt, 0, 99, false}, {math.MinInt, 0, 99, false},
		{ty(15, 18), 15, 18, true}, {ty(15, 18), 15, 19, true}, {ty(15, 18), 15, 17, false}, {ty(15, 18), 19, 18, true}, {ty(15, 18), 19, 17, false},
		{ty(15, 18), 0, 18, false}, {ty(15, 18), 20, 99, false}, {ty(15, 18), -1, 99, false}, {ty(15, 18), 15, math.MinInt, false}, {ty(15, 18), 15, math.MaxInt, true},
		{ty(42, 0), 43, 0, true}, {ty(42, 0), 43, -1, false}, {ty(42, 0), 29, 99, false}, {ty(42, -3), 42, -3, true}, {ty(0, 2), 36, 2, true}, {ty(0, 2), 36, 1, false},
		{ty(99, 0), 99, 5, false}, {ty(-2, 0), -2, 5, false}, {ty(math.MinInt, 0), 0, 5, false}, {ty(-1, 50), 0, 5, true}, {ty(28, 0), 15, 99, false}, // a renaming is no package here
	} {
		if got := scope.Full(tab, at(c.region, c.after, nil, nil), c.ty); got != c.want {
			t.Error(c, got)
		}
	}
}

// P8.2: results are new memory, in ascending order, and the arguments stay as they are.
func TestMemory(t *testing.T) {
	tab, units := world(t)
	w := at(29, len(tab.Ents), slices.Grow(units, 9), slices.Grow([]int{24, 20, 15, 28, 24}, 9))
	before, place := copied(tab), at(29, w.After, slices.Clone(w.Units), slices.Clone(w.Uses))
	a, b := scope.Find(tab, w, "f"), scope.Find(tab, w, "f")
	c, d := scope.Select(tab, w, 35, "E"), scope.Select(tab, w, 35, "E")
	a[0], c[0] = 99, 99
	if !slices.Equal(b, []int{17, 22, 25}) || !slices.Equal(d, []int{36, 37}) {
		t.Error(b, d)
	}
	if !reflect.DeepEqual(tab, before) || !reflect.DeepEqual(w, place) || !slices.Equal(w.Units[:cap(w.Units)][5:], make([]int, cap(w.Units)-5)) || !slices.Equal(w.Uses[:cap(w.Uses)][5:], make([]int, cap(w.Uses)-5)) {
		t.Error("changed", w)
	}
}
