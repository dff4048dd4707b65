package table_test

import (
	"math"
	"reflect"
	"slices"
	"testing"

	"ceiling/api"
	"ceiling/table"
)

// examples returns the table of the chapter's examples.
func examples() api.Table {
	return api.Table{
		Types: []api.Ty{
			row(api.TyUniv, "", -1),
			row(api.TyInt, "Integer", 0),
			with(row(api.TyEnum, "Color", 1), func(r *api.Ty) { r.Lits = []string{"Red", "Green"} }),
			with(row(api.TyArray, "A", 3), func(r *api.Ty) { r.Index, r.Elem = 2, 0 }),
			with(row(api.TyRecord, "R", 4), func(r *api.Ty) {
				r.Disc, r.DiscName, r.Has, r.Default = 1, "D", true, 1
				r.Comps = []api.CompRow{{Name: "x", Sub: 0}, {Name: "y", Sub: 2, Has: true, Default: 7, Variant: true, When: []int64{1}}}
			}),
		},
		Subs: []api.Subt{{T: 1, Lo: api.MinBase, Hi: api.MaxBase}, {T: 2, Lo: 0, Hi: 1}, {T: 1, Lo: 5, Hi: 9}, {T: 3}, {T: 4, Lo: 0, Hi: -1}, {T: 4}},
	}
}

// P6.1 to P6.3: the chapter's examples.
func TestExamples(t *testing.T) {
	tab := examples()
	if !table.May(tab) || table.May(api.Table{}) {
		t.Error("May")
	}
	for sub, n := range map[int]int{2: 1, 3: 5, 4: 3, 6: 0} {
		if table.Slots(tab, sub) != n {
			t.Error("Slots", sub)
		}
	}
	for sub, want := range map[int][]int64{2: {5}, 4: {1, 0, 7}, 5: {0, 0, 7}} {
		if v := table.Default(tab, sub); !slices.Equal(v, want) {
			t.Error("Default", sub, v)
		}
	}
	if slot, ok := table.Element(tab, 3, 9); slot != 4 || !ok {
		t.Error("Element", slot, ok)
	}
	if slot, ok := table.Element(tab, 3, 10); slot != 0 || ok {
		t.Error("Element", slot, ok)
	}
	if slot, ok := table.Component(tab, 4, "y"); slot != 2 || !ok || table.Exists(tab, 4, "y", 0) || !table.Exists(tab, 4, "y", 1) {
		t.Error("Component", slot, ok)
	}
	if table.Fits(tab, 5, []int64{1, 0, 7}) || table.Fits(tab, 4, []int64{1, 0, 4}) || !table.Fits(tab, 4, []int64{1, 0, 7}) || !table.Fits(tab, 5, []int64{0, 0, 7}) {
		t.Error("Fits")
	}
	if !table.Converts(tab, 1, 0) || table.Converts(tab, 2, 1) {
		t.Error("Converts")
	}
	tab.Subs[2].Lo, tab.Subs[2].Hi = -1, 1
	if slot, ok := table.Element(tab, 3, 0); slot != 1 || !ok || table.Slots(tab, 3) != 3 {
		t.Error("the index -1 .. 1", slot, ok)
	}
}

// P6.2: the values of scalar subtypes, also if there are none.
func TestRange(t *testing.T) {
	tab := whole()
	for sub, want := range map[int][2]int64{0: {api.MinBase, api.MaxBase}, 1: {0, 2}, 3: {1, 1}, 10: {0, 0}, 15: {3, -1}, 16: {5, 4}, 17: {-7, 3}} {
		if lo, hi, ok := table.Range(tab, sub); lo != want[0] || hi != want[1] || !ok {
			t.Error(sub, lo, hi, ok)
		}
	}
	for _, sub := range []int{-1, 4, 5, 6, 7, 8, 12, 22, math.MinInt, math.MaxInt} {
		if lo, hi, ok := table.Range(tab, sub); lo != 0 || hi != 0 || ok {
			t.Error(sub, lo, hi, ok)
		}
	}
}

// P6.2: arrays that have no slots, or just 64; and elements of the ends of 64 bits.
func TestArrays(t *testing.T) {
	const low, high = math.MinInt64, math.MaxInt64
	for _, x := range []struct {
		lo, hi int64
		n      int
	}{
		{0, 63, 64}, {0, 64, 0}, {1, 0, 0}, {low, low + 63, 64}, {low, low + 64, 0}, {high - 63, high, 64}, {high - 64, high, 0}, {high, high, 1}, {low, low, 1},
		{low, high, 0}, {high, low, 0}, {0, high, 0}, {low, -1, 0}, {-1, high, 0}, {low, 0, 0},
	} {
		tab := examples()
		tab.Subs[2].Lo, tab.Subs[2].Hi = x.lo, x.hi
		if n := table.Slots(tab, 3); n != x.n || len(table.Default(tab, 3)) != x.n || table.Fits(tab, 3, make([]int64, x.n)) != (x.n > 0) {
			t.Error(x, n)
		}
		for _, at := range []int64{0, 1, 62, 63, 64} {
			slot, ok := table.Element(tab, 3, x.lo+at)
			if want := at < int64(x.n); ok != want || want && slot != int(at) || !want && slot != 0 {
				t.Error(x, at, slot, ok)
			}
		}
		for _, index := range []int64{x.lo - 1, x.hi + 1} {
			if slot, ok := table.Element(tab, 3, index); slot != 0 || ok {
				t.Error(x, index, slot)
			}
		}
	}
}

// P6.2: slots of each kind, of subtypes that need not exist, and slots that do not exist.
func TestSlots(t *testing.T) {
	tab := whole()
	for sub, want := range map[int][]int{
		0: {0}, 3: {3}, 15: {15}, 4: {0, 0, 0, 0, 0}, 5: {5}, 6: {1, 0, 2, 5}, 12: {1, 0, 2, 5}, 7: {0, 20}, 8: {8}, 10: {10}, 11: {5}, 21: {19},
		-1: nil, 22: nil, math.MaxInt: nil,
	} {
		if table.Slots(tab, sub) != len(want) {
			t.Error(sub, table.Slots(tab, sub))
		}
		for slot, of := range want {
			if r, ok := table.Slot(tab, sub, slot); r != of || !ok {
				t.Error(sub, slot, r, ok)
			}
		}
		for _, slot := range []int{-1, len(want), len(want) + 1, math.MinInt, math.MaxInt} {
			if r, ok := table.Slot(tab, sub, slot); r != 0 || ok {
				t.Error(sub, slot, r, ok)
			}
		}
	}
	tab.Types[5].Elem, tab.Types[7].Disc, tab.Types[7].Comps[0].Sub = -9, 99, -2
	tab.Subs[8].T, tab.Subs[9].T, tab.Types[6].Kind = 0, 99, api.TyFormal+1
	if of, ok := table.Slot(tab, 4, 4); of != -9 || !ok || table.Slots(tab, 4) != 5 {
		t.Error("elements of no subtype", of, ok)
	}
	if of, ok := table.Slot(tab, 6, 0); of != 99 || !ok {
		t.Error("a discriminant of no subtype", of, ok)
	}
	if of, ok := table.Slot(tab, 6, 1); of != -2 || !ok {
		t.Error("a component of no subtype", of, ok)
	}
	for _, sub := range []int{5, 8, 9} {
		if table.Slots(tab, sub) != 0 || table.Default(tab, sub) != nil {
			t.Error("no slots", sub)
		}
	}
	for _, sub := range []int{4, 6} {
		if table.Default(tab, sub) != nil || table.Fits(tab, sub, make([]int64, table.Slots(tab, sub))) {
			t.Error("no values", sub)
		}
	}
}

// P6.2: which values fit.
func TestFits(t *testing.T) {
	const low, high = math.MinInt64, math.MaxInt64
	for i, x := range []struct {
		sub  int
		v    []int64
		want bool
	}{
		{0, []int64{api.MinBase}, true}, {0, []int64{api.MinBase - 1}, false}, {0, []int64{api.MaxBase}, true},
		{0, []int64{api.MaxBase + 1}, false}, {0, nil, false}, {0, []int64{}, false}, {0, []int64{1, 1}, false},
		{2, []int64{4}, false}, {2, []int64{5}, true}, {2, []int64{9}, true}, {2, []int64{10}, false},
		{16, []int64{4}, false}, {16, []int64{5}, false}, {14, []int64{0}, false}, {14, []int64{1}, false},
		{5, []int64{-1}, false}, {5, []int64{0}, true}, {5, []int64{2048}, true}, {5, []int64{2049}, false},
		{8, []int64{low}, true}, {8, []int64{high}, true}, {8, nil, false}, {8, []int64{0, 0}, false},
		{4, []int64{1, 2, 3, 4, 5}, true}, {4, []int64{1, 2, 3, 4}, false}, {4, []int64{1, 2, 3, 4, 5, 6}, false},
		{4, []int64{1, 2, 3, 4, high}, false}, {4, []int64{low, 2, 3, 4, 5}, false},
		{6, []int64{0, 1, 5, 0}, true}, {6, []int64{2, 1, 9, 2048}, true}, {6, []int64{3, 1, 5, 0}, false},
		{6, []int64{0, 1, 4, 0}, false}, {6, []int64{1, 1, 5, -1}, false}, {6, []int64{1, 1, 5}, false},
		{6, []int64{1, 1, 5, 0, 0}, false},
		{12, []int64{1, 1, 5, 0}, true}, {12, []int64{0, 1, 5, 0}, false}, {12, []int64{2, 1, 5, 0}, false},
		{13, []int64{2, 1, 5, 0}, true}, {13, []int64{1, 1, 5, 0}, false}, {7, []int64{5, 5}, true},
		{7, []int64{5, 2049}, false}, {21, []int64{-1}, true}, {21, []int64{2}, false},
		{-1, []int64{0}, false}, {22, []int64{0}, false}, {22, nil, false},
	} {
		if table.Fits(whole(), x.sub, x.v) != x.want {
			t.Error(i, x)
		}
	}
	// A record without a discriminant has no fixed one, whatever its subtype's bounds are; nor has an array.
	tab := changed(func(_ []api.Ty, s []api.Subt) { s[7].Lo, s[7].Hi, s[4].Lo, s[4].Hi = 9, 9, 9, 9 })
	if !table.Fits(tab, 7, []int64{5, 5}) || !table.Fits(tab, 4, make([]int64, 5)) {
		t.Error("bounds that mean nothing")
	}
}

// P6.2: default values, as they are, and none.
func TestDefault(t *testing.T) {
	for i, x := range []struct {
		sub    int
		want   []int64
		change func(l []api.Ty, s []api.Subt)
	}{
		{0, []int64{0}, nil}, {1, []int64{0}, nil}, {2, []int64{5}, nil}, {3, []int64{1}, nil},
		{4, make([]int64, 5), nil}, {5, []int64{0}, nil}, {6, []int64{1, 0, 7, 0}, nil},
		{12, []int64{1, 0, 7, 0}, nil}, {13, []int64{2, 0, 7, 0}, nil}, {7, []int64{-3, 0}, nil},
		{8, []int64{0}, nil}, {14, nil, nil}, {15, nil, nil}, {16, nil, nil}, {17, []int64{0}, nil},
		{21, []int64{0}, nil}, {-1, nil, nil}, {22, nil, nil},
		{6, []int64{0, 0, 7, 0}, func(l []api.Ty, s []api.Subt) { l[7].Has = false }},
		{6, []int64{99, 0, 7, 0}, func(l []api.Ty, s []api.Subt) { l[7].Default = 99 }},
		{12, []int64{1, 0, 7, 0}, func(l []api.Ty, s []api.Subt) { l[7].Default = 99 }},
		{12, []int64{50, 0, 7, 0}, func(l []api.Ty, s []api.Subt) { s[12].Lo, s[12].Hi = 50, 50 }},
		{12, []int64{1, 0, 7, 0}, func(l []api.Ty, s []api.Subt) { s[12].Lo, s[12].Hi = 2, 3 }},
		{6, []int64{1, 0, 5, 0}, func(l []api.Ty, s []api.Subt) { l[7].Comps[1].Has = false }},
		{6, []int64{1, 0, -100, 0}, func(l []api.Ty, s []api.Subt) { l[7].Comps[1].Default = -100 }},
		{6, []int64{1, 0, 7, 8}, func(l []api.Ty, s []api.Subt) { l[7].Comps[2].Has, l[7].Comps[2].Default = true, 8 }},
		{6, []int64{1, 8, 7, 0}, func(l []api.Ty, s []api.Subt) { l[7].Comps[0].Has, l[7].Comps[0].Default = true, 8 }},
		{6, nil, func(l []api.Ty, s []api.Subt) { l[7].Comps[1].Sub = 16 }},
		{6, nil, func(l []api.Ty, s []api.Subt) { l[7].Comps[1].Sub = 4 }},
		{6, nil, func(l []api.Ty, s []api.Subt) { l[7].Comps[1].Sub = 6 }},
		{6, nil, func(l []api.Ty, s []api.Subt) { l[7].Disc = 16 }},
		{12, nil, func(l []api.Ty, s []api.Subt) { l[7].Disc = 50 }},
		{12, nil, func(l []api.Ty, s []api.Subt) { l[7].Disc = -2 }},
		{6, []int64{0, 7, 0}, func(l []api.Ty, s []api.Subt) { l[7].Disc = -1 }},
		{12, []int64{0, 7, 0}, func(l []api.Ty, s []api.Subt) { l[7].Disc = -1 }},
		{7, []int64{-3, 0}, func(l []api.Ty, s []api.Subt) { s[7].Lo, s[7].Hi = 4, 4 }},
		{7, []int64{-3, 0}, func(l []api.Ty, s []api.Subt) { l[8].Has, l[8].Default = true, 4 }},
		{21, []int64{1}, func(l []api.Ty, s []api.Subt) { l[13].Disc = 3 }},
		{21, []int64{0}, func(l []api.Ty, s []api.Subt) { l[13].Disc = 8 }},
		{4, []int64{5, 5, 5, 5, 5}, func(l []api.Ty, s []api.Subt) { l[5].Elem = 2 }},
		{4, make([]int64, 5), func(l []api.Ty, s []api.Subt) { l[5].Elem = 8 }},
		{4, nil, func(l []api.Ty, s []api.Subt) { l[5].Elem = 16 }},
		{4, nil, func(l []api.Ty, s []api.Subt) { l[5].Elem = 4 }},
		{4, nil, func(l []api.Ty, s []api.Subt) { l[5].Index = 16 }},
		{4, nil, func(l []api.Ty, s []api.Subt) { l[5].Index = 5 }},
		{0, []int64{-7}, func(l []api.Ty, s []api.Subt) { s[0].Lo, s[0].Hi = -7, -2 }},
		{0, []int64{math.MinInt64}, func(l []api.Ty, s []api.Subt) { s[0].Lo, s[0].Hi = math.MinInt64, math.MinInt64 }},
		{0, nil, func(l []api.Ty, s []api.Subt) { s[0].Lo, s[0].Hi = 1, -1 }},
		{4, make([]int64, 5), func(l []api.Ty, s []api.Subt) { l[5].Has, l[5].Default, s[4].Lo, s[4].Hi = true, 3, 2, 2 }},
	} {
		tab := whole()
		if x.change != nil {
			x.change(tab.Types, tab.Subs)
		}
		if v := table.Default(tab, x.sub); !slices.Equal(v, x.want) {
			t.Error(i, v, "not", x.want)
		}
	}
}

// P6.3: components and discriminants by name, the first of several, and when they exist.
func TestComponents(t *testing.T) {
	for i, x := range []struct {
		sub    int
		name   string
		want   int
		exists []int64 // of the values -1 to 3
		change func(l []api.Ty)
	}{
		{6, "D", 0, []int64{-1, 0, 1, 2, 3}, nil}, {6, "x", 1, []int64{-1, 0, 1, 2, 3}, nil},
		{6, "y", 2, []int64{1}, nil}, {6, "r", 3, []int64{0, 2}, nil}, {13, "r", 3, []int64{0, 2}, nil},
		{6, "X", -1, nil, nil}, {6, "", -1, nil, nil}, {7, "a", 0, []int64{-1, 0, 1, 2, 3}, nil},
		{7, "b", 1, []int64{-1, 0, 1, 2, 3}, nil}, {7, "", -1, nil, nil}, {7, "D", -1, nil, nil},
		{0, "D", -1, nil, nil}, {4, "x", -1, nil, nil}, {4, "", -1, nil, nil}, {-1, "D", -1, nil, nil},
		{22, "", -1, nil, nil},
		{6, "y", 1, []int64{-1, 0, 1, 2, 3}, func(l []api.Ty) { l[7].Comps[0].Name = "y" }},
		{6, "y", 2, []int64{1}, func(l []api.Ty) { l[7].Comps[2].Name = "y" }},
		{6, "y", 0, []int64{-1, 0, 1, 2, 3}, func(l []api.Ty) { l[7].DiscName = "y" }},
		{6, "", 0, []int64{-1, 0, 1, 2, 3}, func(l []api.Ty) { l[7].DiscName = "" }},
		{6, "D", -1, nil, func(l []api.Ty) { l[7].Disc = -1 }},
		{6, "y", 1, []int64{1}, func(l []api.Ty) { l[7].Disc = -1 }},
		{6, "D", 0, []int64{-1, 0, 1, 2, 3}, func(l []api.Ty) { l[7].Disc = -2 }},
		{7, "", 1, []int64{-1, 0, 1, 2, 3}, func(l []api.Ty) { l[8].Comps[1].Name = "" }},
		{7, "b", 1, []int64{-1, 0, 1, 2, 3}, func(l []api.Ty) { l[8].DiscName = "b" }},
		{6, "x", 1, nil, func(l []api.Ty) { l[7].Comps[0].Variant = true }},
		{6, "x", 1, []int64{-1, 0, 1, 2, 3}, func(l []api.Ty) { l[7].Comps[0].When = []int64{1} }},
		{6, "y", 2, []int64{-1, 0, 3}, func(l []api.Ty) { l[7].Comps[1].When = []int64{3, 0, -1, 3} }},
		{8, "D", -1, nil, func(l []api.Ty) { l[9].Disc, l[9].DiscName = 1, "D" }},
	} {
		tab := whole()
		if x.change != nil {
			x.change(tab.Types)
		}
		slot, ok := table.Component(tab, x.sub, x.name)
		if ok != (x.want >= 0) || slot != max(x.want, 0) {
			t.Error(i, slot, ok)
		}
		for v := int64(-1); v <= 3; v++ {
			if table.Exists(tab, x.sub, x.name, v) != slices.Contains(x.exists, v) {
				t.Error(i, "exists", v)
			}
		}
	}
}

// P6.3: conversions, roots and alike subtypes.
func TestConverts(t *testing.T) {
	tab := whole()
	more := func(r api.Ty, s ...api.Subt) { tab.Types, tab.Subs = append(tab.Types, r), append(tab.Subs, s...) }
	more(with(row(api.TyAccess, "Ref2", 22), func(r *api.Ty) { r.Target = 23 }), api.Subt{T: 14}, api.Subt{T: 1, Lo: api.MinBase, Hi: api.MaxBase})
	more(with(row(api.TyAccess, "Ref3", 24), func(r *api.Ty) { r.Target = 2 }), api.Subt{T: 15})
	more(with(row(api.TyEnum, "Later", 25), func(r *api.Ty) { r.Parent, r.Lits = 4, tab.Types[2].Lits }), api.Subt{T: 16})
	more(with(row(api.TyEnum, "Hue", 26), func(r *api.Ty) { r.Lits = tab.Types[2].Lits }), api.Subt{T: 17, Hi: 2})
	more(with(row(api.TyInt, "Smaller", 27), func(r *api.Ty) { r.Parent = 3 }), api.Subt{T: 18})
	may(t, tab, true)
	classes := [][]int{{0, 1, 3, 10, 18}, {2, 4, 16}, {17}, {5}, {6, 14}, {15}, {7}, {8}, {9}, {11}, {12}, {13}}
	for _, a := range classes {
		for _, b := range classes {
			for _, from := range a {
				for _, to := range b {
					if table.Converts(tab, from, to) != (a[0] == b[0]) {
						t.Error(from, to)
					}
				}
			}
		}
	}
	for _, x := range [][2]int{{-1, -1}, {0, -1}, {-1, 0}, {19, 19}, {1, 19}, {19, 1}, {math.MaxInt, math.MaxInt}} {
		if table.Converts(tab, x[0], x[1]) {
			t.Error(x)
		}
	}
	for ty, want := range map[int]int{0: 0, 1: 1, 2: 2, 3: 1, 4: 2, 16: 2, 17: 17, 18: 1, 5: 5, -1: -1, 19: -1, math.MinInt: -1} {
		if r := table.Root(tab, ty); r != want {
			t.Error("root", ty, r)
		}
	}
	for _, x := range []struct {
		a, b int
		want bool
	}{{0, 0, true}, {0, 23, true}, {5, 20, true}, {0, 2, false}, {16, 19, false}, {5, 7, false}, {-1, -1, false}, {28, 28, false}, {0, 28, false}, {-1, 0, false}} {
		if table.Alike(tab, x.a, x.b) != x.want || table.Alike(tab, x.b, x.a) != x.want {
			t.Error("alike", x)
		}
	}
}

// P6.3: tables that are not valid: parents that come later or are odd, kinds that do not exist, targets and subtypes of no type.
func TestConvertsInvalid(t *testing.T) {
	tab := whole()
	for ty, p := range map[int]int{1: 1, 2: 4, 3: 0, 4: 0, 5: 3, 6: -2, 7: math.MaxInt, 11: 4, 0: 0} {
		tab.Types[ty].Parent = p
	}
	for ty, want := range map[int]int{0: 0, 1: 1, 2: 2, 3: 0, 4: 0, 5: 0, 6: 6, 7: 7, 11: 0} {
		if r := table.Root(tab, ty); r != want {
			t.Error("root", ty, r)
		}
	}
	if !table.Converts(tab, 4, 11) || table.Converts(tab, 2, 4) || table.Converts(tab, 5, 4) {
		t.Error("enumerations of the root 0")
	}
	tab.Types[8].Kind, tab.Types[9].Kind = api.NoTy, api.NoTy
	if table.Converts(tab, 8, 9) || !table.Converts(tab, 8, 8) {
		t.Error("no kinds")
	}
	tab.Types[12], tab.Types[13] = tab.Types[6], tab.Types[6]
	for _, target := range []int{-1, 22} {
		tab.Types[12].Target, tab.Types[13].Target = target, target
		if table.Converts(tab, 12, 13) || !table.Converts(tab, 12, 12) {
			t.Error("target", target)
		}
	}
	tab.Subs[16], tab.Subs[17] = api.Subt{T: -5, Lo: 1}, api.Subt{T: -5, Lo: 1}
	tab.Types[12].Target, tab.Types[13].Target = 16, 17
	if !table.Alike(tab, 16, 17) || !table.Converts(tab, 12, 13) {
		t.Error("subtypes of no type")
	}
	for i, s := range []api.Subt{{T: -4, Lo: 1}, {T: -5}, {T: -5, Lo: 1, Hi: 1}} {
		if tab.Subs[17] = s; table.Alike(tab, 16, 17) || table.Converts(tab, 12, 13) {
			t.Error("not alike", i)
		}
	}
}

// P6.2 and P6.3: all functions for random tables, valid and not, against the reference; and no argument is changed.
func TestRandom(t *testing.T) {
	m := newMaker(2)
	for range 4000 {
		tab := m.some()
		before := copied(tab)
		for sub := -2; sub < len(tab.Subs)+2; sub++ {
			variables(t, m, tab, sub)
			parts(t, m, tab, sub)
			other := m.near(len(tab.Subs))
			if table.Alike(tab, sub, other) != alike(tab, sub, other) {
				t.Fatal("Alike", sub, other)
			}
		}
		for ty := -2; ty < len(tab.Types)+2; ty++ {
			if table.Root(tab, ty) != root(tab, ty) {
				t.Fatal("Root", ty)
			}
			for to := -2; to < len(tab.Types)+2; to++ {
				if table.Converts(tab, ty, to) != converts(tab, ty, to) {
					t.Fatal("Converts", ty, to)
				}
			}
		}
		if !reflect.DeepEqual(tab, before) {
			t.Fatal("changed")
		}
	}
}

// variables checks Range, Slots, Slot, Fits and Default of a subtype.
func variables(t *testing.T, m maker, tab api.Table, sub int) {
	t.Helper()
	lo, hi, ok := table.Range(tab, sub)
	if ok != scalar(tab, sub) || ok && (lo != tab.Subs[sub].Lo || hi != tab.Subs[sub].Hi) || !ok && (lo != 0 || hi != 0) {
		t.Fatal("Range", sub, lo, hi, ok)
	}
	l := slots(tab, sub)
	if table.Slots(tab, sub) != len(l) {
		t.Fatal("Slots", sub)
	}
	for slot := -2; slot < len(l)+2; slot++ {
		of, ok := table.Slot(tab, sub, slot)
		if there := slot >= 0 && slot < len(l); ok != there || there && of != l[slot] || !there && of != 0 {
			t.Fatal("Slot", sub, slot, of, ok)
		}
	}
	v := table.Default(tab, sub)
	if !slices.Equal(v, initial(tab, sub)) {
		t.Fatal("Default", sub, v)
	}
	for range 4 {
		if table.Fits(tab, sub, v) != fits(tab, sub, v) {
			t.Fatal("Fits", sub, v)
		}
		if len(v) == 0 || m.yes(5) {
			v = append(v, 0)
		} else {
			v[m.Intn(len(v))] = m.odd()
		}
	}
	if !slices.Equal(table.Default(tab, sub), initial(tab, sub)) {
		t.Fatal("Default is not new", sub)
	}
}

// parts checks Element, Component and Exists of a subtype.
func parts(t *testing.T, m maker, tab api.Table, sub int) {
	t.Helper()
	indices := []int64{m.odd(), -1, 0, 1, 5}
	names := []string{m.text(), ""}
	if sub >= 0 && sub < len(tab.Subs) && tab.Subs[sub].T >= 0 && tab.Subs[sub].T < len(tab.Types) {
		r := tab.Types[tab.Subs[sub].T]
		if l := members(tab, r.Index); len(l) > 0 {
			indices = append(indices, l[0]-1, l[0], l[len(l)-1], l[len(l)-1]+1)
		}
		names = append(names, r.DiscName)
		for _, c := range r.Comps {
			names = append(names, c.Name)
		}
	}
	for _, x := range indices {
		slot, ok := table.Element(tab, sub, x)
		if want := element(tab, sub, x); ok != (want >= 0) || slot != max(want, 0) {
			t.Fatal("Element", sub, x, slot, ok)
		}
	}
	for _, s := range names {
		v := m.odd()
		slot, ok := table.Component(tab, sub, s)
		want, there := component(tab, sub, s, v)
		if ok != (want >= 0) || slot != max(want, 0) || table.Exists(tab, sub, s, v) != there {
			t.Fatal("Component", sub, s, slot, ok)
		}
	}
}
