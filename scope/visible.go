package scope

import (
	"iter"
	"slices"

	"ceiling/api"
)

// within reports whether a number is an index of a list of n elements.
func within(i, n int) bool { return 0 <= i && i < n }

func exist(t api.Table, a, b int) bool { return within(a, len(t.Ents)) && within(b, len(t.Ents)) }

// kept returns the elements of a list for which something holds.
func kept[E any](l []E, holds func(E) bool) []E {
	var out []E
	for _, x := range l {
		if holds(x) {
			out = append(out, x)
		}
	}
	return out
}

// outwards goes over the regions in which a region lies, from that region itself on.
func outwards(t api.Table, region int) iter.Seq[int] {
	return func(yield func(int) bool) {
		if !within(region, len(t.Ents)) {
			return
		}
		r := region
		// Only an Owner below the region counts, so that this ends in every table.
		for yield(r) && within(t.Ents[r].Owner, r) {
			r = t.Ents[r].Owner
		}
	}
}

func overloadable(x *api.Ent) bool {
	switch x.Kind {
	case api.EnProc, api.EnFunc, api.EnEntry, api.EnLiteral:
		return true
	}
	return false
}

// typeOf returns the type of a subtype; -1: the subtype does not exist.
func typeOf(t api.Table, sub int) int {
	if !within(sub, len(t.Subs)) {
		return -1
	}
	return t.Subs[sub].T
}

func sameProfile(t api.Table, x, y *api.Ent) bool {
	return x.T == y.T && slices.EqualFunc(x.Params, y.Params, func(p, q api.ParamRow) bool {
		return typeOf(t, p.Sub) == typeOf(t, q.Sub)
	})
}

func homographs(t api.Table, x, y *api.Ent) bool {
	return x.Name == y.Name && (!overloadable(x) || !overloadable(y) || sameProfile(t, x, y))
}

// named returns the entities with a name that are declared before a place; the empty name is none.
func named(t api.Table, w api.Where, name string) []int {
	if name == "" {
		return nil
	}
	var out []int
	for e := range min(w.After, len(t.Ents)) {
		if t.Ents[e].Name == name {
			out = append(out, e)
		}
	}
	return out
}

// closed reports whether an entity is a library unit that cannot be named at a place.
func closed(t api.Table, w api.Where, ent int) bool {
	x := &t.Ents[ent]
	return x.Owner == 0 && x.Unit >= 0 && !slices.Contains(w.Units, ent) && !Inside(t, w.Region, ent)
}

// shows reports whether what a region declares in its visible part can be selected from everywhere.
func shows(x *api.Ent) bool {
	switch x.Kind {
	case api.EnPackage:
		return !x.Generic
	case api.EnTask, api.EnProt:
		return true
	}
	return false
}

// hidden reports whether an entity is a homograph of one of others.
func hidden(t api.Table, ent int, by []int) bool {
	return slices.ContainsFunc(by, func(e int) bool { return Homographs(t, ent, e) })
}

// directly returns those of the entities with a name that are directly visible at a place, the innermost ones first.
func directly(t api.Table, w api.Where, l []int) []int {
	var out []int
	for r := range outwards(t, w.Region) {
		out = append(out, kept(l, func(e int) bool {
			return t.Ents[e].Owner == r && !closed(t, w, e) && !hidden(t, e, out)
		})...)
	}
	return out
}

// byUse returns those of the entities with a name that are visible at a place by use, where direct are directly visible.
func byUse(t api.Table, w api.Where, l, direct []int) []int {
	packages := used(t, w)
	// Each entity is a homograph of itself, so that those of direct are left out, too.
	candidates := kept(l, func(e int) bool {
		x := &t.Ents[e]
		return x.Part == api.PaVisible && slices.Contains(packages, x.Owner) && !hidden(t, e, direct)
	})
	return kept(candidates, func(e int) bool {
		return !slices.ContainsFunc(candidates, func(c int) bool { return clash(t, e, c) })
	})
}

// used returns the packages that are used at a place.
func used(t api.Table, w api.Where) []int {
	var out []int
	for _, u := range w.Uses {
		if p := Base(t, u); p >= 0 && t.Ents[p].Kind == api.EnPackage {
			out = append(out, p)
		}
	}
	return out
}

// clash reports whether two entities of one name hide each other where both are used; they are homographs if one is not overloadable.
func clash(t api.Table, a, b int) bool {
	x, y := &t.Ents[a], &t.Ents[b]
	return x.Owner != y.Owner && !(overloadable(x) && overloadable(y))
}
