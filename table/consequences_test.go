package table_test

import (
	"testing"

	"ceiling/api"
	"ceiling/table"
)

// valids calls a function for random valid tables, and that of all sorts.
func valids(t *testing.T, seed int64, f func(tab api.Table)) {
	t.Helper()
	f(whole())
	f(examples())
	m := newMaker(seed)
	for range 3000 {
		tab := m.valid(14, 40)
		if !table.May(tab) {
			t.Fatal("not valid")
		}
		f(tab)
	}
}

// P6.4: the default values of a variable fit, unless one of its slots has no values.
func TestDefaultsFit(t *testing.T) {
	fit, not := 0, 0
	valids(t, 3, func(tab api.Table) {
		for sub := range tab.Subs {
			some := true // each slot has values
			for slot := range table.Slots(tab, sub) {
				of, _ := table.Slot(tab, sub, slot)
				lo, hi, ok := table.Range(tab, of)
				some = some && (!ok || lo <= hi)
			}
			if v := table.Default(tab, sub); some != (len(v) > 0) || some != table.Fits(tab, sub, v) {
				t.Fatal(sub, v)
			}
			if some {
				fit++
			} else {
				not++
			}
		}
	})
	if fit < 10000 || not < 1000 {
		t.Error(fit, not)
	}
}

// P6.4: different elements and components have different slots, and each slot but that of the discriminant is one of them.
func TestPartsAndSlots(t *testing.T) {
	arrays, records := 0, 0
	valids(t, 4, func(tab api.Table) {
		for sub, s := range tab.Subs {
			met := map[int]bool{}
			meet := func(slot int, ok bool) {
				if !ok || met[slot] || slot < 0 || slot >= table.Slots(tab, sub) {
					t.Fatal(sub, slot, ok)
				}
				met[slot] = true
			}
			switch r := tab.Types[s.T]; r.Kind {
			case api.TyArray:
				arrays++
				lo, hi, _ := table.Range(tab, r.Index)
				for x := lo; x <= hi; x++ {
					meet(table.Element(tab, sub, x))
				}
			case api.TyRecord:
				records++
				for _, c := range r.Comps {
					meet(table.Component(tab, sub, c.Name))
				}
				if r.Disc != -1 {
					meet(table.Component(tab, sub, r.DiscName))
				}
			default:
				continue
			}
			if len(met) != table.Slots(tab, sub) {
				t.Fatal(sub, met)
			}
		}
	})
	if arrays < 1000 || records < 1000 {
		t.Error(arrays, records)
	}
}

// P6.4: Converts is an equivalence relation on the types that exist, and so is having the same root.
func TestEquivalences(t *testing.T) {
	check := func(n int, same func(a, b int) bool) {
		for a := range n {
			for b := range n {
				if a == b && !same(a, b) || same(a, b) != same(b, a) {
					t.Fatal("not reflexive or symmetric", a, b)
				}
				for c := range n {
					if same(a, b) && same(b, c) && !same(a, c) {
						t.Fatal("not transitive", a, b, c)
					}
				}
			}
		}
	}
	valids(t, 5, func(tab api.Table) {
		check(len(tab.Types), func(a, b int) bool { return table.Converts(tab, a, b) })
		check(len(tab.Types), func(a, b int) bool { return table.Root(tab, a) == table.Root(tab, b) })
	})
}
