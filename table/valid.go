package table

import (
	"slices"

	"ceiling/api"
	"ceiling/lex"
)

// A set has groups of fields of a type: those in which a field is neither -1 nor zero.
type set uint8

const (
	hasCommon set = 1 << iota // what every type but universal integer may have
	hasParent
	hasLits
	hasElems
	hasDisc
	hasComps
	hasTarget
	hasFormal
)

func when(there bool, group set) set {
	if there {
		return group
	}
	return 0
}

func groups(r api.Ty) set {
	return when(r.Name != "" || r.First != -1 || r.Limited || r.Priv != -1 || r.Full != 0 || r.Level != 0, hasCommon) |
		when(r.Parent != -1, hasParent) |
		when(len(r.Lits) > 0, hasLits) |
		when(r.Index != -1 || r.Elem != -1, hasElems) |
		when(r.Disc != -1 || r.DiscName != "" || r.Has || r.Default != 0, hasDisc) |
		when(len(r.Comps) > 0, hasComps) |
		when(r.Target != -1, hasTarget) |
		when(r.Formal != api.NoOf, hasFormal)
}

// A checker tells which rows of a table are valid.
type checker struct{ api.Table }

func (c *checker) valid() bool {
	if len(c.Types) == 0 || len(c.Types) > api.MaxTypes || len(c.Subs) > api.MaxSubs {
		return false
	}
	rules := map[api.TyKind]func(ty int) bool{
		api.TyUniv:   c.universal,
		api.TyInt:    c.integer,
		api.TyEnum:   c.enumeration,
		api.TyArray:  c.array,
		api.TyRecord: c.record,
		api.TyAccess: c.access,
		api.TyFormal: c.formal,
	}
	for ty, r := range c.Types {
		rule, ok := rules[r.Kind]
		if !ok || !rule(ty) {
			return false
		}
	}
	for _, s := range c.Subs {
		if !c.subtype(s) {
			return false
		}
	}
	return true
}

func (c *checker) universal(ty int) bool { return ty == 0 && groups(c.Types[ty]) == 0 }

// declared reports whether a type has what every type but universal integer has, and beside that only these groups of fields.
func (c *checker) declared(ty int, own set) bool {
	r := c.Types[ty]
	return ty != 0 && groups(r)&^(hasCommon|own) == 0 && lex.Name(r.Name) &&
		within(r.First, len(c.Subs)) && c.Subs[r.First].T == ty && r.Level >= 0 && hidden(r)
}

// hidden reports whether a type says rightly whether it is private.
func hidden(r api.Ty) bool {
	if r.Priv == -1 {
		return r.Full == 0 && (!r.Limited || r.Kind == api.TyFormal)
	}
	return r.Priv >= 0 && r.Full >= 0
}

// first returns the bounds of the first subtype of a type that is declared.
func (c *checker) first(ty int) api.Bounds {
	s := c.Subs[c.Types[ty].First]
	return api.Bounds{Lo: s.Lo, Hi: s.Hi}
}

// derived reports whether a type has a parent that it may have, or none.
func (c *checker) derived(ty int) bool {
	r := c.Types[ty]
	if r.Parent == -1 {
		return true
	}
	if !within(r.Parent, ty) {
		return false
	}
	p := c.Types[r.Parent]
	return p.Kind == r.Kind && p.Formal == api.NoOf && r.Formal == api.NoOf && slices.Equal(p.Lits, r.Lits)
}

func (c *checker) integer(ty int) bool {
	if !c.declared(ty, hasParent|hasFormal) || !c.derived(ty) {
		return false
	}
	switch c.Types[ty].Formal {
	case api.NoOf:
		return !empty(c.first(ty))
	case api.OfInteger:
		return c.first(ty) == api.Bounds{}
	}
	return false
}

func (c *checker) enumeration(ty int) bool {
	r := c.Types[ty]
	if !c.declared(ty, hasParent|hasLits|hasFormal) || len(r.Lits) > api.MaxLits || !c.derived(ty) {
		return false
	}
	switch r.Formal {
	case api.NoOf:
		all := api.Bounds{Lo: 0, Hi: literals(r) - 1}
		return len(r.Lits) > 0 && named(r.Lits, itself) && !empty(c.first(ty)) && (r.Parent != -1 || c.first(ty) == all)
	case api.OfDiscrete:
		return len(r.Lits) == 0 && c.first(ty) == api.Bounds{}
	}
	return false
}

func (c *checker) array(ty int) bool {
	r := c.Types[ty]
	return c.declared(ty, hasElems) && few(values(c.Table, r.Index), api.MaxElems) && c.simple(r.Elem)
}

func (c *checker) record(ty int) bool {
	r := c.Types[ty]
	if !c.declared(ty, hasDisc|hasComps) || len(r.Comps) > api.MaxComps || !c.discriminated(ty) {
		return false
	}
	disc := values(c.Table, r.Disc) // none without a discriminant, so that there are no variants then
	for _, x := range r.Comps {
		if !c.component(x, disc) {
			return false
		}
	}
	return named(r.Comps, nameOfComp) && position(r.Comps, nameOfComp, r.DiscName) < 0
}

// discriminated reports whether a record has a discriminant that it may have; or none, but a component.
func (c *checker) discriminated(ty int) bool {
	r := c.Types[ty]
	if r.Disc == -1 {
		return groups(r)&(hasDisc|hasComps) == hasComps
	}
	b := values(c.Table, r.Disc)
	return few(b, api.MaxLits) && lex.Name(r.DiscName) && defaulted(r.Has, r.Default, b) && c.first(ty) == none
}

func (c *checker) component(x api.CompRow, disc api.Bounds) bool {
	return c.simple(x.Sub) && defaulted(x.Has, x.Default, values(c.Table, x.Sub)) &&
		x.Variant == (len(x.When) > 0) && ascending(x.When, disc)
}

func (c *checker) access(ty int) bool {
	return c.declared(ty, hasTarget) && !empty(values(c.Table, c.Types[ty].Target))
}

func (c *checker) formal(ty int) bool {
	return c.declared(ty, hasFormal) && c.Types[ty].Formal == api.OfPrivate
}

// simple reports whether elements and components may be of a subtype.
func (c *checker) simple(sub int) bool {
	_, ty := rows(c.Table, sub)
	return ty.Kind == api.TyAccess || !empty(values(c.Table, sub))
}

func (c *checker) subtype(s api.Subt) bool {
	if s.T == 0 || !within(s.T, len(c.Types)) {
		return false
	}
	r, b := c.Types[s.T], api.Bounds{Lo: s.Lo, Hi: s.Hi}
	switch {
	case r.Kind == api.TyInt:
		return bounded(b, api.Bounds{Lo: api.MinBase, Hi: api.MaxBase})
	case r.Kind == api.TyEnum:
		n := literals(r)
		return bounded(b, api.Bounds{Lo: -1, Hi: n}) && (empty(b) || bounded(b, api.Bounds{Lo: 0, Hi: n - 1}))
	case r.Kind == api.TyRecord && r.Disc != -1:
		return b == none || b.Lo == b.Hi && has(values(c.Table, r.Disc), b.Lo)
	}
	return b == api.Bounds{}
}

// literals returns the number of values of an enumeration type; a formal one counts as one of one literal.
func literals(r api.Ty) int64 {
	if r.Formal == api.OfDiscrete {
		return 1
	}
	return int64(len(r.Lits))
}

// bounded reports whether both bounds, also those of an empty range, are in a range.
func bounded(b, in api.Bounds) bool { return has(in, b.Lo) && has(in, b.Hi) }

// defaulted reports whether a default value is one of the values, or there is none.
func defaulted(there bool, v int64, b api.Bounds) bool {
	if !there {
		return v == 0
	}
	return has(b, v)
}

// ascending reports whether a list of values is ascending.
func ascending(l []int64, b api.Bounds) bool {
	for i, v := range l {
		if !has(b, v) || i > 0 && v <= l[i-1] {
			return false
		}
	}
	return true
}

// named reports whether the elements of a list have names, and each another one.
func named[E any](l []E, nameOf func(E) string) bool {
	for i, x := range l {
		name := nameOf(x)
		if !lex.Name(name) || position(l, nameOf, name) < i {
			return false
		}
	}
	return true
}

func itself(s string) string { return s }
