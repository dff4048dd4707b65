package table_test

import (
	"math"
	"reflect"
	"slices"
	"strconv"
	"strings"
	"testing"

	"ceiling/api"
	"ceiling/table"
)

// may fails the test unless May says that, for a table, and the reference says so too.
func may(t *testing.T, tab api.Table, want bool, about ...any) {
	t.Helper()
	if ok := table.May(tab); ok != want || valid(tab) != want {
		t.Error(ok, valid(tab), "not", want, about)
	}
}

// P6.1: the smallest tables, and that of all sorts; the lists of entities and generic units do not count.
func TestSmallTables(t *testing.T) {
	zero := row(api.TyUniv, "", -1)
	may(t, api.Table{}, false)
	may(t, api.Table{Types: []api.Ty{}, Subs: []api.Subt{}}, false)
	may(t, api.Table{Subs: []api.Subt{{}}}, false)
	may(t, api.Table{Types: []api.Ty{zero}}, true)
	may(t, api.Table{Types: []api.Ty{{}}}, false)
	may(t, api.Table{Types: []api.Ty{{Kind: api.TyUniv}}}, false)
	may(t, api.Table{Types: []api.Ty{zero}, Subs: []api.Subt{{}}}, false)
	may(t, api.Table{Types: []api.Ty{zero, zero}}, false)
	may(t, api.Table{Types: []api.Ty{row(api.TyInt, "Integer", 0)}, Subs: []api.Subt{{T: 0, Lo: 0, Hi: 9}}}, false)
	may(t, whole(), true)
	other := whole()
	other.Ents, other.Gens, other.Insts = make([]api.Ent, 5000), []api.GenRow{{Ent: -7}}, []api.InstRow{{}}
	may(t, other, true)
	for i := range other.Types {
		other.Types[i].Lits, other.Types[i].Comps = append([]string{}, other.Types[i].Lits...), append([]api.CompRow{}, other.Types[i].Comps...)
		for j, c := range other.Types[i].Comps {
			other.Types[i].Comps[j].When = append([]int64{}, c.When...)
		}
	}
	may(t, other, true, "empty lists")
}

// P6.1: each field of each row, with odd values. The reference tells which are allowed, and which kinds use the field at all.
func TestEachField(t *testing.T) {
	yes, no := 0, 0
	count := func(tab api.Table, about ...any) {
		ok := table.May(tab)
		if ok != valid(tab) {
			t.Error(ok, about)
		}
		if ok {
			yes++
		} else {
			no++
		}
	}
	for i := range whole().Types {
		for f := range reflect.TypeFor[api.Ty]().NumField() {
			for _, x := range odds(reflect.TypeFor[api.Ty]().Field(f).Type) {
				tab := whole()
				reflect.ValueOf(&tab.Types[i]).Elem().Field(f).Set(x)
				count(tab, i, f, x)
			}
		}
		for j := range whole().Types[i].Comps {
			for f := range reflect.TypeFor[api.CompRow]().NumField() {
				for _, x := range odds(reflect.TypeFor[api.CompRow]().Field(f).Type) {
					tab := whole()
					reflect.ValueOf(&tab.Types[i].Comps[j]).Elem().Field(f).Set(x)
					count(tab, i, j, f, x)
				}
			}
		}
	}
	for i := range whole().Subs {
		for f := range reflect.TypeFor[api.Subt]().NumField() {
			for _, x := range odds(reflect.TypeFor[api.Subt]().Field(f).Type) {
				tab := whole()
				reflect.ValueOf(&tab.Subs[i]).Elem().Field(f).Set(x)
				count(tab, i, f, x)
			}
		}
	}
	if yes < 500 || no < 2000 {
		t.Error(yes, no)
	}
}

// odds returns values of a type of fields.
func odds(of reflect.Type) []reflect.Value {
	var l []reflect.Value
	switch of.Kind() {
	case reflect.Bool:
		return []reflect.Value{reflect.ValueOf(false), reflect.ValueOf(true)}
	case reflect.String:
		for _, s := range []string{"", "A", "D", "x", "y", "Integer", "is", "2", "a-b", strings.Repeat("n", 32), strings.Repeat("n", 33)} {
			l = append(l, reflect.ValueOf(s))
		}
		return l
	case reflect.Slice:
		return oddLists(of)
	case reflect.Uint8:
		for n := range 256 {
			l = append(l, reflect.ValueOf(n).Convert(of))
		}
		return l
	}
	for n := int64(-3); n < 25; n++ {
		l = append(l, reflect.ValueOf(n).Convert(of))
	}
	for _, n := range []int64{63, 64, api.MinBase - 1, api.MinBase, api.MaxBase, api.MaxBase + 1, math.MinInt64, math.MaxInt64} {
		l = append(l, reflect.ValueOf(n).Convert(of))
	}
	return l
}

func oddLists(of reflect.Type) []reflect.Value {
	switch of {
	case reflect.TypeFor[[]string]():
		return values([]string(nil), []string{}, []string{""}, []string{"Red"}, []string{"Red", "Green", "Blue"}, []string{"Red", "Green", "Red"},
			[]string{"Red", "Green", "blue"}, []string{"A", "if", "B"}, []string{"Red", "Green", "Blue", "Grey"})
	case reflect.TypeFor[[]int64]():
		return values([]int64(nil), []int64{}, []int64{0}, []int64{2}, []int64{3}, []int64{-1}, []int64{0, 1, 2}, []int64{0, 0}, []int64{1, 0},
			[]int64{0, 2, 1}, []int64{0, 1, 2, 3}, []int64{math.MinInt64, 0}, []int64{0, math.MaxInt64})
	}
	l := values([]api.CompRow(nil), []api.CompRow{}, []api.CompRow{{}}, []api.CompRow{{Name: "D"}}, []api.CompRow{{Name: "a", Sub: 5}, {Name: "a", Sub: 5}})
	for _, sub := range []int{0, 4, 5, 8, 16, 99} {
		l = append(l, reflect.ValueOf([]api.CompRow{{Name: "a", Sub: sub}}))
	}
	return l
}

func values(l ...any) []reflect.Value {
	var out []reflect.Value
	for _, x := range l {
		out = append(out, reflect.ValueOf(x))
	}
	return out
}

// P6.1: random tables with several changes.
func TestRandomTables(t *testing.T) {
	m := newMaker(1)
	yes, no := 0, 0
	for range 20000 {
		tab := m.valid(10, 20)
		may(t, tab, true)
		for range 1 + m.Intn(3) {
			m.disturb(&tab)
		}
		ok := table.May(tab)
		if ok != valid(tab) {
			t.Fatal(ok, tab)
		}
		if ok {
			yes++
		} else {
			no++
		}
	}
	if yes < 1000 || no < 5000 {
		t.Error(yes, no)
	}
}

// changed returns the table of all sorts with changes.
func changed(change func(l []api.Ty, s []api.Subt)) api.Table {
	tab := whole()
	change(tab.Types, tab.Subs)
	return tab
}

// P6.1: what every type has.
func TestAllTypes(t *testing.T) {
	for i, x := range []struct {
		want   bool
		change func(r *api.Ty)
	}{
		{true, func(r *api.Ty) { r.Name = "Color" }}, {true, func(r *api.Ty) { r.Name = strings.Repeat("n", 32) }},
		{false, func(r *api.Ty) { r.Name = strings.Repeat("n", 33) }}, {false, func(r *api.Ty) { r.Name = "" }},
		{false, func(r *api.Ty) { r.Name = "begin" }}, {false, func(r *api.Ty) { r.Name = "1" }},
		{true, func(r *api.Ty) { r.First = 4 }}, {false, func(r *api.Ty) { r.First = 5 }},
		{false, func(r *api.Ty) { r.First = -1 }}, {false, func(r *api.Ty) { r.First = 22 }},
		{false, func(r *api.Ty) { r.First = math.MaxInt }},
		{true, func(r *api.Ty) { r.Level = math.MaxInt }}, {false, func(r *api.Ty) { r.Level = -1 }},
		{true, func(r *api.Ty) { r.Priv = 0 }}, {true, func(r *api.Ty) { r.Priv = math.MaxInt }},
		{false, func(r *api.Ty) { r.Priv = -2 }}, {true, func(r *api.Ty) { r.Priv, r.Full = 3, 5000 }},
		{true, func(r *api.Ty) { r.Priv, r.Limited = 3, true }},
		{false, func(r *api.Ty) { r.Full = 1 }}, {false, func(r *api.Ty) { r.Full = -1 }},
		{false, func(r *api.Ty) { r.Priv, r.Full = 3, -1 }}, {false, func(r *api.Ty) { r.Limited = true }},
		{false, func(r *api.Ty) { r.Kind = api.NoTy }}, {false, func(r *api.Ty) { r.Kind = api.TyUniv }},
		{false, func(r *api.Ty) { r.Kind = api.TyFormal + 1 }}, {false, func(r *api.Ty) { r.Parent = 1 }},
		{false, func(r *api.Ty) { r.Formal = api.OfPrivate }},
	} {
		may(t, changed(func(l []api.Ty, _ []api.Subt) { x.change(&l[5]) }), x.want, i)
	}
	may(t, changed(func(l []api.Ty, _ []api.Subt) { l[9].Limited = false }), true)
	may(t, changed(func(l []api.Ty, _ []api.Subt) { l[9].Full = 1 }), false)
	for i, change := range []func(r *api.Ty){
		func(r *api.Ty) { r.Name = "Univ" }, func(r *api.Ty) { r.Parent = 0 }, func(r *api.Ty) { r.First = 0 },
		func(r *api.Ty) { r.Priv = 0 }, func(r *api.Ty) { r.Full = 1 }, func(r *api.Ty) { r.Level = 1 }, func(r *api.Ty) { r.Limited = true },
		func(r *api.Ty) { r.Lits = []string{"A"} }, func(r *api.Ty) { r.Index = 0 }, func(r *api.Ty) { r.Elem = 0 },
		func(r *api.Ty) { r.Disc = 1 }, func(r *api.Ty) { r.DiscName = "D" }, func(r *api.Ty) { r.Has = true }, func(r *api.Ty) { r.Default = 1 },
		func(r *api.Ty) { r.Comps = make([]api.CompRow, 1) }, func(r *api.Ty) { r.Target = 0 }, func(r *api.Ty) { r.Formal = api.OfInteger },
	} {
		may(t, changed(func(l []api.Ty, _ []api.Subt) { change(&l[0]) }), false, "universal", i)
	}
}

// P6.1: integer and enumeration types, and what they are derived from.
func TestScalarTypes(t *testing.T) {
	var lits []string
	for n := range int64(70) {
		color := with(row(api.TyEnum, "Color", 0), func(r *api.Ty) { r.Lits = slices.Clone(lits) })
		may(t, api.Table{Types: []api.Ty{row(api.TyUniv, "", -1), color}, Subs: []api.Subt{{T: 1, Lo: 0, Hi: n - 1}}}, n >= 1 && n <= 64, "literals", n)
		lits = append(lits, "L"+strconv.FormatInt(n, 10))
	}
	for i, x := range []struct {
		want   bool
		change func(l []api.Ty, s []api.Subt)
	}{
		{true, func(l []api.Ty, s []api.Subt) { s[0].Lo, s[0].Hi = 4, 9; l[8].Comps[0].Default = 4 }},
		{false, func(l []api.Ty, s []api.Subt) { s[3].Lo = 2 }},
		{true, func(l []api.Ty, s []api.Subt) { s[3].Lo = 0 }},
		{true, func(l []api.Ty, s []api.Subt) { s[3].Hi = 2 }},
		{false, func(l []api.Ty, s []api.Subt) { s[3].Hi = 3 }},
		{false, func(l []api.Ty, s []api.Subt) { s[1].Hi = 1 }},
		{false, func(l []api.Ty, s []api.Subt) { s[1].Lo = 1 }},
		{false, func(l []api.Ty, s []api.Subt) { s[1].Hi = 3 }},
		{false, func(l []api.Ty, s []api.Subt) { l[2].Lits[2] = "Red" }},
		{false, func(l []api.Ty, s []api.Subt) { l[4].Lits[2] = "Grey" }},
		{false, func(l []api.Ty, s []api.Subt) { l[2].Lits[1], l[4].Lits[1] = "end", "end" }},
		{false, func(l []api.Ty, s []api.Subt) { l[2].Lits[0], l[4].Lits[0] = "Green", "Green" }},
		{false, func(l []api.Ty, s []api.Subt) { l[4].Parent = 4 }},
		{false, func(l []api.Ty, s []api.Subt) { l[2].Parent = 4 }},
		{false, func(l []api.Ty, s []api.Subt) { l[3].Parent = 0 }},
		{false, func(l []api.Ty, s []api.Subt) { l[3].Parent = 2 }},
		{false, func(l []api.Ty, s []api.Subt) { l[3].Parent = -2 }},
		{false, func(l []api.Ty, s []api.Subt) { l[3].Parent = 3 }},
		{false, func(l []api.Ty, s []api.Subt) { l[4].Parent = 1 }},
		{true, func(l []api.Ty, s []api.Subt) { l[3].Parent = -1 }},
		{false, func(l []api.Ty, s []api.Subt) { l[4].Parent = -1 }},
		{true, func(l []api.Ty, s []api.Subt) { l[4].Parent = -1; s[3].Lo, s[3].Hi = 0, 2 }},
		{false, func(l []api.Ty, s []api.Subt) { l[10].Parent = 1 }},
		{false, func(l []api.Ty, s []api.Subt) { l[11].Parent = 2 }},
		{false, func(l []api.Ty, s []api.Subt) { l[1].Formal = api.OfInteger }},
		{true, func(l []api.Ty, s []api.Subt) { l[10].Formal = api.NoOf }},
		{false, func(l []api.Ty, s []api.Subt) { l[11].Formal = api.NoOf }},
		{false, func(l []api.Ty, s []api.Subt) { s[9].Hi = 1 }},
		{false, func(l []api.Ty, s []api.Subt) { s[9].Lo = -1 }},
		{false, func(l []api.Ty, s []api.Subt) { s[10].Hi = -1 }},
		{false, func(l []api.Ty, s []api.Subt) { s[10].Lo = 1 }},
		{false, func(l []api.Ty, s []api.Subt) { l[11].Lits = []string{"A"} }},
		{false, func(l []api.Ty, s []api.Subt) { l[1].Lits = []string{"A"} }},
		{false, func(l []api.Ty, s []api.Subt) { l[10].Formal = api.OfDiscrete }},
		{false, func(l []api.Ty, s []api.Subt) { l[10].Formal = api.OfPrivate }},
		{false, func(l []api.Ty, s []api.Subt) { l[11].Formal = api.OfInteger }},
		{false, func(l []api.Ty, s []api.Subt) { l[9].Formal = api.OfInteger }},
		{false, func(l []api.Ty, s []api.Subt) { l[9].Formal = api.NoOf }},
	} {
		may(t, changed(x.change), x.want, i)
	}
	// Neither a formal type nor another one is derived from a formal type.
	for _, of := range []api.OfKind{api.NoOf, api.OfInteger} {
		tab := whole()
		tab.Types = append(tab.Types, with(row(api.TyInt, "J", 22), func(r *api.Ty) { r.Formal, r.Parent = of, 10 }))
		tab.Subs = append(tab.Subs, api.Subt{T: 14})
		may(t, tab, false, of)
		tab.Types[14].Parent = -1
		may(t, tab, true, of)
	}
}

// P6.1: arrays and access types.
func TestArraysAndAccess(t *testing.T) {
	for n := int64(-2); n < 70; n++ {
		may(t, changed(func(_ []api.Ty, s []api.Subt) { s[17].Lo, s[17].Hi = -30, n-31 }), true)
		may(t, changed(func(l []api.Ty, s []api.Subt) { s[17].Lo, s[17].Hi = -30, n-31; l[5].Index = 17 }), n >= 1 && n <= 64, "elements", n)
	}
	for sub := -2; sub < 24; sub++ {
		scalars := slices.Contains([]int{0, 1, 2, 3, 9, 10, 17, 19}, sub)
		refs := sub == 5 || sub == 20
		may(t, changed(func(l []api.Ty, _ []api.Subt) { l[5].Index = sub }), scalars && sub != 0, "index", sub)
		may(t, changed(func(l []api.Ty, _ []api.Subt) { l[5].Elem = sub }), scalars || refs, "elements", sub)
		may(t, changed(func(l []api.Ty, _ []api.Subt) { l[6].Target = sub }), scalars, "target", sub)
		may(t, changed(func(l []api.Ty, _ []api.Subt) { l[7].Comps[0].Sub = sub }), scalars || refs, "component", sub)
		may(t, changed(func(l []api.Ty, _ []api.Subt) { l[13].Disc = sub }), scalars && sub != 0, "discriminant", sub)
	}
}

// P6.1: records.
func TestRecords(t *testing.T) {
	for n := range 20 {
		var comps []api.CompRow
		for i := range n {
			comps = append(comps, api.CompRow{Name: "c" + strconv.Itoa(i)})
		}
		may(t, changed(func(l []api.Ty, _ []api.Subt) { l[7].Comps = comps }), n <= 16, n)
		may(t, changed(func(l []api.Ty, _ []api.Subt) { l[8].Comps = comps }), n >= 1 && n <= 16, n)
	}
	for n := int64(-2); n < 70; n++ {
		may(t, changed(func(l []api.Ty, s []api.Subt) { s[17].Lo, s[17].Hi = -30, n-31; l[13].Disc = 17 }), n >= 1 && n <= 64, n)
	}
	for i, x := range []struct {
		want   bool
		change func(r *api.Ty, s []api.Subt)
	}{
		{true, func(r *api.Ty, s []api.Subt) { r.Has, r.Default = false, 0 }},
		{false, func(r *api.Ty, s []api.Subt) { r.Has = false }},
		{true, func(r *api.Ty, s []api.Subt) { r.Default = 2 }},
		{false, func(r *api.Ty, s []api.Subt) { r.Default = 3 }},
		{false, func(r *api.Ty, s []api.Subt) { r.Default = -1 }},
		{false, func(r *api.Ty, s []api.Subt) { r.DiscName = "" }},
		{false, func(r *api.Ty, s []api.Subt) { r.DiscName = "all" }},
		{false, func(r *api.Ty, s []api.Subt) { r.DiscName = "x" }},
		{false, func(r *api.Ty, s []api.Subt) { r.DiscName = "r" }},
		{true, func(r *api.Ty, s []api.Subt) { r.DiscName = "X" }},
		{false, func(r *api.Ty, s []api.Subt) { r.Comps[0].Name = "y" }},
		{false, func(r *api.Ty, s []api.Subt) { r.Comps[2].Name = "x" }},
		{false, func(r *api.Ty, s []api.Subt) { r.Comps[1].Name = "D" }},
		{false, func(r *api.Ty, s []api.Subt) { r.Comps[1].Name = "" }},
		{false, func(r *api.Ty, s []api.Subt) { r.Comps[1].Default = 4 }},
		{false, func(r *api.Ty, s []api.Subt) { r.Comps[1].Default = 10 }},
		{false, func(r *api.Ty, s []api.Subt) { r.Comps[1].Has = false }},
		{false, func(r *api.Ty, s []api.Subt) { r.Comps[2].Has = true }},
		{true, func(r *api.Ty, s []api.Subt) { r.Comps[0].Has = true }},
		{false, func(r *api.Ty, s []api.Subt) { r.Comps[0].Default = 1 }},
		{false, func(r *api.Ty, s []api.Subt) { r.Comps[1].Variant = false }},
		{false, func(r *api.Ty, s []api.Subt) { r.Comps[0].Variant = true }},
		{false, func(r *api.Ty, s []api.Subt) { r.Comps[1].When = nil }},
		{false, func(r *api.Ty, s []api.Subt) { r.Comps[1].When = []int64{3} }},
		{false, func(r *api.Ty, s []api.Subt) { r.Comps[1].When = []int64{-1} }},
		{true, func(r *api.Ty, s []api.Subt) { r.Comps[1].When = []int64{0, 1, 2} }},
		{false, func(r *api.Ty, s []api.Subt) { r.Comps[1].When = []int64{0, 1, 1} }},
		{false, func(r *api.Ty, s []api.Subt) { r.Comps[1].When = []int64{1, 0} }},
		{false, func(r *api.Ty, s []api.Subt) { r.Comps[1].When = []int64{0, 2, 1} }},
		{false, func(r *api.Ty, s []api.Subt) { s[6].Lo, s[6].Hi = 1, 1 }},
		{false, func(r *api.Ty, s []api.Subt) { s[6].Hi = 0 }},
		{false, func(r *api.Ty, s []api.Subt) { s[12].Hi = 2 }},
		{false, func(r *api.Ty, s []api.Subt) { s[12].Lo, s[12].Hi = 3, 3 }},
		{false, func(r *api.Ty, s []api.Subt) { s[12].Lo, s[12].Hi = 1, 0 }},
		{true, func(r *api.Ty, s []api.Subt) { s[12].Lo, s[12].Hi = 0, -1 }},
		{false, func(r *api.Ty, s []api.Subt) { r.Disc = -1 }},
		{false, func(r *api.Ty, s []api.Subt) { r.Disc = -2 }},
		{false, func(r *api.Ty, s []api.Subt) { r.Disc = 14 }},
	} {
		may(t, changed(func(l []api.Ty, s []api.Subt) { x.change(&l[7], s) }), x.want, i)
	}
	for i, change := range []func(r *api.Ty){
		func(r *api.Ty) { r.DiscName = "D" }, func(r *api.Ty) { r.Has = true }, func(r *api.Ty) { r.Default = 1 },
		func(r *api.Ty) { r.Comps[0].Variant = true }, func(r *api.Ty) { r.Comps[0].When = []int64{0} },
		func(r *api.Ty) { r.Comps[0].Variant, r.Comps[0].When = true, []int64{0} },
	} {
		may(t, changed(func(l []api.Ty, _ []api.Subt) { change(&l[8]) }), false, "without a discriminant", i)
	}
}

// P6.1: the bounds of the subtypes of each kind.
func TestSubtypes(t *testing.T) {
	const low, high = api.MinBase, api.MaxBase
	type bounds [][2]int64
	for _, x := range []struct {
		ty      int
		yes, no bounds
	}{
		{0, nil, bounds{{0, 0}, {0, -1}}},
		{-1, nil, bounds{{0, 0}}},
		{14, nil, bounds{{0, 0}}},
		{1, bounds{{low, low}, {high, low}, {low, high}, {3, 3}, {4, 3}}, bounds{{low - 1, 0}, {0, low - 1}, {0, high + 1}, {high + 1, 0}, {math.MinInt64, math.MaxInt64}}},
		{3, bounds{{0, 100}, {4, 3}}, bounds{{0, high + 1}}},
		{10, bounds{{low, high}, {1, 0}}, bounds{{low - 1, 0}}},
		{2, bounds{{0, 2}, {2, 2}, {3, -1}, {3, 2}, {0, -1}, {1, 0}}, bounds{{0, 3}, {-1, 0}, {-1, -1}, {3, 3}, {4, 0}, {0, -2}, {-1, 3}}},
		{4, bounds{{0, 2}, {3, -1}}, bounds{{3, 3}, {-1, 1}}},
		{11, bounds{{0, 0}, {1, 0}, {0, -1}, {1, -1}}, bounds{{0, 1}, {1, 1}, {-1, -1}, {-1, 0}, {2, 0}, {0, -2}}},
		{7, bounds{{0, -1}, {0, 0}, {2, 2}}, bounds{{3, 3}, {-1, -1}, {0, 1}, {1, 0}, {1, -1}}},
		{13, bounds{{0, -1}, {-1, -1}, {1, 1}}, bounds{{2, 2}, {-1, 1}}},
		{8, bounds{{0, 0}}, bounds{{0, -1}, {1, 1}, {1, 0}}},
		{5, bounds{{0, 0}}, bounds{{0, -1}, {5, 9}, {1, 1}}},
		{6, bounds{{0, 0}}, bounds{{0, -1}, {0, 1}, {1, 0}}},
		{9, bounds{{0, 0}}, bounds{{0, -1}, {0, 2}}},
	} {
		for want, l := range map[bool]bounds{true: x.yes, false: x.no} {
			for _, b := range l {
				tab := whole()
				tab.Subs = append(tab.Subs, api.Subt{T: x.ty, Lo: b[0], Hi: b[1]})
				may(t, tab, want, x.ty, b)
			}
		}
	}
}

// P6.1: how many types and subtypes there may be; a table that is much too large is refused as well.
func TestManyRows(t *testing.T) {
	for _, n := range []int{255, 256, 257, 5000} {
		tab := api.Table{Types: []api.Ty{row(api.TyUniv, "", -1)}}
		for i := 1; i < n; i++ {
			tab.Types = append(tab.Types, row(api.TyInt, "T", i-1))
			tab.Subs = append(tab.Subs, api.Subt{T: i})
		}
		may(t, tab, n <= 256, n)
	}
	for _, n := range []int{511, 512, 513, 100000} {
		tab := whole()
		tab.Subs = append(tab.Subs, slices.Repeat([]api.Subt{{T: 1}}, n-len(tab.Subs))...)
		may(t, tab, n <= 512, n)
	}
	long := strings.Repeat("n", 1<<20)
	for i, change := range []func(r *api.Ty){
		func(r *api.Ty) { r.Lits = slices.Repeat([]string{"A"}, 1<<20) },
		func(r *api.Ty) { r.Comps = make([]api.CompRow, 1<<20) },
		func(r *api.Ty) { r.Comps = []api.CompRow{{Name: long, Variant: true, When: make([]int64, 1<<20)}} },
		func(r *api.Ty) { r.Name = long },
		func(r *api.Ty) { r.DiscName = long },
	} {
		for ty := range whole().Types {
			may(t, changed(func(l []api.Ty, _ []api.Subt) { change(&l[ty]) }), false, i, ty)
		}
	}
}
