package scope_test

import (
	"slices"
	"testing"

	"ceiling/api"
	"ceiling/scope"
)

// added returns a table whose entities Add has added, each with an Owner that was there.
func (m maker) added(t *testing.T, most int) api.Table {
	t.Helper()
	tab := m.start()
	for range m.Intn(most) {
		x := m.ent(tab)
		x.Owner = max(0, min(x.Owner, len(tab.Ents)-1))
		if u, e := scope.Add(tab, x); e == api.OK {
			tab = u
		}
	}
	return tab
}

// P8.3: which entities that Find returns can be homographs.
func TestHomographsThatAreVisible(t *testing.T) {
	m := newMaker(3)
	pairs, alone := 0, 0
	for range 20000 {
		tab := m.added(t, 40)
		w := m.where(tab)
		plain := w
		plain.Uses = nil
		for _, name := range []string{"a", "b", "c"} {
			l := scope.Find(tab, w, name)
			direct := scope.Find(tab, plain, name)
			if !slices.IsSorted(l) || len(slices.Compact(slices.Clone(l))) != len(l) {
				t.Fatal("order", l)
			}
			for _, a := range l {
				if tab.Ents[a].Name != name || a >= w.After {
					t.Fatal(name, a)
				}
				for _, b := range l {
					if a == b || !scope.Homographs(tab, a, b) {
						alone++
						continue
					}
					pairs++
					x, y := tab.Ents[a], tab.Ents[b]
					if slices.Contains(direct, a) || slices.Contains(direct, b) || x.Owner == y.Owner || !(ref{t: tab}).overloadable(a) || !(ref{t: tab}).overloadable(b) {
						t.Fatal(w, name, a, b, tab.Ents)
					}
				}
			}
		}
	}
	if pairs < 100 || alone < 10000 {
		t.Error(pairs, alone)
	}
}

// P8.3: an entity that is added to the innermost region hides its homographs and nothing else.
func TestAddedEntityHidesItsHomographs(t *testing.T) {
	m := newMaker(4)
	hid, left, shown := 0, 0, 0
	for range 30000 {
		tab := m.added(t, 40)
		w := m.where(tab)
		w.After = len(tab.Ents)
		x := m.ent(tab)
		x.Owner, x.Unit = w.Region, -1
		more, e := scope.Add(tab, x)
		if e != api.OK || x.Name == "" || w.Region < 0 || w.Region >= len(tab.Ents) {
			continue
		}
		own := len(tab.Ents)
		old := scope.Find(tab, w, x.Name)
		w.After++
		got := scope.Find(more, w, x.Name)
		if !slices.Contains(got, own) {
			t.Fatal(w, x, got)
		}
		for _, e := range got {
			if e != own && scope.Homographs(more, e, own) {
				t.Fatal("not hidden", w, e, more.Ents)
			}
			if e != own && !slices.Contains(old, e) {
				shown++
			}
		}
		for _, e := range old {
			switch {
			case scope.Homographs(more, e, own):
				hid++
			case !slices.Contains(got, e):
				t.Fatal("hidden", w, e, more.Ents)
			default:
				left++
			}
		}
	}
	if hid < 1000 || left < 1000 || shown < 1 {
		t.Error(hid, left, shown)
	}
}

// missing reports whether one of some entities does not exist.
func missing(t api.Table, l []int) bool {
	return slices.ContainsFunc(l, func(e int) bool { return e < 0 || e >= len(t.Ents) })
}

// P8.3: entities with other names make no difference, be they added or changed.
func TestOtherNamesMakeNoDifference(t *testing.T) {
	m := newMaker(5)
	found := 0
	for range 20000 {
		tab := m.added(t, 30)
		w := m.where(tab)
		w.After = len(tab.Ents)
		if missing(tab, append(w.Uses, w.Region)) || missing(tab, w.Units) {
			continue // what does not exist yet could be added
		}
		old := scope.Find(tab, w, "a")
		found += len(old)
		more, later := copied(tab), w
		for i := range more.Ents {
			// Names, parts, types and profiles do not change what a region is.
			if x := &more.Ents[i]; x.Name != "a" {
				x.Name, x.Part, x.T, x.Params = pick(m, "b", "c", "d", ""), api.PartKind(m.Intn(3)), m.Intn(4)-1, nil
			}
		}
		for range m.Intn(10) {
			if x := m.ent(more); x.Name != "a" {
				more.Ents = append(more.Ents, x)
			}
		}
		later.After = len(more.Ents)
		if got := scope.Find(more, later, "a"); !slices.Equal(got, old) {
			t.Fatal(w, got, old)
		}
	}
	if found < 10000 {
		t.Error(found)
	}
}
