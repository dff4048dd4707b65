package scope_test

import (
	"math"
	"reflect"
	"slices"
	"testing"

	"ceiling/api"
	"ceiling/scope"
)

// A ref works out the chapter's terms one after the other, as they are written, at a place of a table.
type ref struct {
	t api.Table
	w api.Where
}

func (r ref) exists(e int) bool { return e >= 0 && e < len(r.t.Ents) }

// chain returns the regions in which a region lies.
func (r ref) chain(e int) []int {
	if !r.exists(e) {
		return nil
	}
	if o := r.t.Ents[e].Owner; o >= 0 && o < e {
		return append([]int{e}, r.chain(o)...)
	}
	return []int{e}
}

func (r ref) liesIn(e, outer int) bool { return slices.Contains(r.chain(e), outer) }

func (r ref) base(e int) int {
	if !r.exists(e) {
		return -1
	}
	if x := r.t.Ents[e]; x.Ren && x.Of >= 0 && x.Of < e {
		return r.base(x.Of)
	}
	return e
}

func (r ref) overloadable(e int) bool {
	k := r.t.Ents[e].Kind
	return k == api.EnProc || k == api.EnFunc || k == api.EnEntry || k == api.EnLiteral
}

// profile returns the types of the parameters, and that of the entity.
func (r ref) profile(e int) []int {
	l := []int{}
	for _, p := range r.t.Ents[e].Params {
		if p.Sub >= 0 && p.Sub < len(r.t.Subs) {
			l = append(l, r.t.Subs[p.Sub].T)
		} else {
			l = append(l, -1)
		}
	}
	return append(l, r.t.Ents[e].T)
}

func (r ref) sameProfile(a, b int) bool {
	return r.exists(a) && r.exists(b) && reflect.DeepEqual(r.profile(a), r.profile(b))
}

func (r ref) homographs(a, b int) bool {
	if !r.exists(a) || !r.exists(b) || r.t.Ents[a].Name != r.t.Ents[b].Name {
		return false
	}
	return !r.overloadable(a) || !r.overloadable(b) || r.sameProfile(a, b)
}

func (r ref) before(e int) bool { return e < r.w.After }

// canName reports whether an entity is no library unit, or one that can be named at the place.
func (r ref) canName(e int) bool {
	if x := r.t.Ents[e]; x.Owner != 0 || x.Unit < 0 {
		return true
	}
	return slices.Contains(r.w.Units, e) || r.liesIn(r.w.Region, e)
}

// direct reports whether an entity is directly visible.
func (r ref) direct(e int) bool {
	chain := r.chain(r.w.Region)
	at := slices.Index(chain, r.t.Ents[e].Owner)
	if at < 0 || !r.before(e) || !r.canName(e) {
		return false
	}
	for h, x := range r.t.Ents {
		if in := slices.Index(chain, x.Owner); in >= 0 && in < at && r.homographs(e, h) && r.direct(h) {
			return false
		}
	}
	return true
}

// candidate reports whether an entity is a candidate for being visible by use.
func (r ref) candidate(e int) bool {
	x, open := r.t.Ents[e], false
	for _, u := range r.w.Uses {
		p := r.base(u)
		open = open || p >= 0 && p == x.Owner && r.t.Ents[p].Kind == api.EnPackage
	}
	if !open || x.Part != api.PaVisible || !r.before(e) {
		return false
	}
	for h := range r.t.Ents {
		if r.homographs(e, h) && r.direct(h) {
			return false
		}
	}
	return true
}

func (r ref) byUse(e int) bool {
	if !r.candidate(e) {
		return false
	}
	for h, x := range r.t.Ents {
		if x.Owner != r.t.Ents[e].Owner && r.homographs(e, h) && (!r.overloadable(e) || !r.overloadable(h)) && r.candidate(h) {
			return false
		}
	}
	return true
}

func (r ref) find(name string) []int {
	l := []int{}
	for e, x := range r.t.Ents {
		if name != "" && x.Name == name && (r.direct(e) || r.byUse(e)) {
			l = append(l, e)
		}
	}
	return l
}

func (r ref) selected(owner int, name string) []int {
	l := []int{}
	p := r.base(owner)
	if name == "" || p < 0 {
		return l
	}
	for e, x := range r.t.Ents {
		if x.Name != name || x.Owner != p || !r.before(e) || p == 0 && !r.canName(e) {
			continue
		}
		q := r.t.Ents[p]
		holds := []bool{
			r.liesIn(r.w.Region, p),
			q.Kind == api.EnStandard,
			x.Part == api.PaVisible && (q.Kind == api.EnPackage && !q.Generic || q.Kind == api.EnTask || q.Kind == api.EnProt),
		}
		if slices.Contains(holds, true) {
			l = append(l, e)
		}
	}
	return l
}

func (r ref) full(ty int) bool {
	if ty < 0 || ty >= len(r.t.Types) {
		return false
	}
	x := r.t.Types[ty]
	return x.Priv == -1 || r.liesIn(r.w.Region, x.Priv) && r.w.After >= x.Full
}

func (r ref) add(x api.Ent) (api.Table, api.Errno) {
	if len(r.t.Ents) >= 4096 {
		return api.Table{}, api.ErrLong
	}
	more := copied(r.t)
	more.Ents = append(more.Ents, x)
	for e, y := range r.t.Ents {
		if x.Name != "" && y.Owner == x.Owner && (ref{t: more}).homographs(e, len(r.t.Ents)) {
			return api.Table{}, api.ErrTwice
		}
	}
	return more, api.OK
}

// odd returns numbers that are no entities of a list of n.
func odd(n int) []int { return []int{math.MinInt, -2, -1, n, n + 1, math.MaxInt} }

// P8.1: Base, Inside, Profile and Homographs of all entities and pairs of random tables, and Add.
func TestEntitiesAgainstReference(t *testing.T) {
	m := newMaker(1)
	twins, profiles, renamed, added, twice := 0, 0, 0, 0, 0
	for range 3000 {
		r := ref{t: m.wild(25)}
		n := len(r.t.Ents)
		all := odd(n)
		for e := range n {
			all = append(all, e)
		}
		for _, a := range all {
			if got := scope.Base(r.t, a); got != r.base(a) {
				t.Fatal("Base", a, got, r.t.Ents)
			} else if got != a && got >= 0 {
				renamed++
			}
			for _, b := range all {
				if scope.Inside(r.t, a, b) != r.liesIn(a, b) {
					t.Fatal("Inside", a, b, r.t.Ents)
				}
				if scope.Profile(r.t, a, b) != r.sameProfile(a, b) {
					t.Fatal("Profile", a, b, r.t.Ents)
				} else if a < b && r.sameProfile(a, b) {
					profiles++
				}
				if scope.Homographs(r.t, a, b) != r.homographs(a, b) {
					t.Fatal("Homographs", a, b, r.t.Ents)
				} else if a < b && r.homographs(a, b) {
					twins++
				}
			}
		}
		for range 8 {
			x := m.ent(r.t)
			got, e := scope.Add(r.t, x)
			want, f := r.add(x)
			if e != f || !reflect.DeepEqual(got, want) {
				t.Fatal("Add", x, e, r.t.Ents)
			}
			if e == api.OK {
				added++
			} else {
				twice++
			}
		}
	}
	if twins < 1000 || profiles < 1000 || renamed < 1000 || added < 1000 || twice < 1000 {
		t.Error(twins, profiles, renamed, added, twice)
	}
}

// P8.2: Find, Select and Full at random places of random tables.
func TestPlacesAgainstReference(t *testing.T) {
	m := newMaker(2)
	direct, byUse, hidden, clashing, selected, full := 0, 0, 0, 0, 0, 0
	for range 6000 {
		tab := m.wild(30)
		for range 5 {
			r := ref{tab, m.where(tab)}
			for _, name := range []string{"a", "b", "c", "", "Standard", "d"} {
				if got, want := scope.Find(tab, r.w, name), r.find(name); !slices.Equal(got, want) {
					t.Fatal("Find", r.w, name, got, want, tab.Ents)
				}
			}
			for e, x := range tab.Ents {
				switch {
				case x.Name == "":
				case r.direct(e):
					direct++
				case slices.Contains(r.chain(r.w.Region), x.Owner) && r.before(e) && r.canName(e):
					hidden++
				case r.byUse(e):
					byUse++
				case r.candidate(e):
					clashing++
				}
			}
			for _, owner := range []int{m.near(len(tab.Ents)), m.region(tab), m.region(tab), 0} {
				for _, name := range []string{"a", "b", ""} {
					got, want := scope.Select(tab, r.w, owner, name), r.selected(owner, name)
					if !slices.Equal(got, want) {
						t.Fatal("Select", r.w, owner, name, got, want, tab.Ents)
					}
					selected += len(got)
				}
			}
			for _, ty := range append(odd(len(tab.Types)), 0, 1, 2) {
				got, want := scope.Full(tab, r.w, ty), r.full(ty)
				if got != want {
					t.Fatal("Full", r.w, ty, got, tab)
				}
				if got && tab.Types[ty].Priv != -1 {
					full++
				}
			}
		}
	}
	if direct < 1000 || byUse < 1000 || hidden < 1000 || clashing < 1000 || selected < 1000 || full < 1000 {
		t.Error(direct, byUse, hidden, clashing, selected, full)
	}
}

// P0.1: tables of any size, without anything, and numbers of all sizes.
func TestTotal(t *testing.T) {
	numbers := []int{math.MinInt, -1, 0, 1, 5, math.MaxInt}
	for _, tab := range []api.Table{{}, {Ents: []api.Ent{}}, {Ents: make([]api.Ent, 3)}, {Types: make([]api.Ty, 2), Ents: []api.Ent{{Name: "x", Ren: true}}}} {
		for _, a := range numbers {
			for _, b := range numbers {
				r := ref{tab, api.Where{Region: a, After: b, Units: numbers, Uses: numbers}}
				if scope.Base(tab, a) != r.base(a) || scope.Inside(tab, a, b) != r.liesIn(a, b) || scope.Profile(tab, a, b) != r.sameProfile(a, b) || scope.Homographs(tab, a, b) != r.homographs(a, b) {
					t.Error(tab, a, b)
				}
				for _, name := range []string{"", "x"} {
					if !slices.Equal(scope.Find(tab, r.w, name), r.find(name)) || !slices.Equal(scope.Select(tab, r.w, a, name), r.selected(a, name)) || scope.Full(tab, r.w, b) != r.full(b) {
						t.Error(tab, r.w)
					}
				}
			}
		}
	}
	// Regions and renamings that are nested deeper than any call could be.
	const n = 100000
	var tab api.Table
	for i := range n {
		tab.Ents = append(tab.Ents, api.Ent{Kind: api.EnPackage, Name: []string{"y", "x"}[i/(n-9)], Owner: i - 1, Of: i - 1, Ren: true, Unit: -1})
	}
	w := api.Where{Region: n - 1, After: n, Uses: []int{n - 1, n - 2}}
	if l := scope.Find(tab, w, "x"); !slices.Equal(l, []int{n - 1}) {
		t.Error(l)
	}
	if l := scope.Select(tab, w, n-1, "y"); !slices.Equal(l, []int{1}) {
		t.Error(l)
	}
	if scope.Base(tab, n-1) != 0 || !scope.Inside(tab, n-1, 0) || scope.Inside(tab, n-2, n-1) {
		t.Error("deep")
	}
}
