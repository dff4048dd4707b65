package table_test

import (
	"math"
	"math/rand"
	"slices"
	"strconv"

	"ceiling/api"
)

// row returns a type in which no field is used but those.
func row(kind api.TyKind, name string, first int) api.Ty {
	return api.Ty{Kind: kind, Name: name, Parent: -1, First: first, Index: -1, Elem: -1, Disc: -1, Target: -1, Priv: -1}
}

// with returns a type with a change.
func with(r api.Ty, change func(r *api.Ty)) api.Ty {
	change(&r)
	return r
}

// whole returns a valid table with types and subtypes of all sorts.
func whole() api.Table {
	lits := []string{"Red", "Green", "Blue"}
	return api.Table{
		Types: []api.Ty{
			row(api.TyUniv, "", -1),
			row(api.TyInt, "Integer", 0),
			with(row(api.TyEnum, "Color", 1), func(r *api.Ty) { r.Lits = lits }),
			with(row(api.TyInt, "Small", 2), func(r *api.Ty) { r.Parent, r.Priv, r.Full, r.Limited = 1, 4, 7, true }),
			with(row(api.TyEnum, "Late", 3), func(r *api.Ty) { r.Parent, r.Lits, r.Level = 2, slices.Clone(lits), 2 }),
			with(row(api.TyArray, "Row", 4), func(r *api.Ty) { r.Index, r.Elem = 2, 0 }),
			with(row(api.TyAccess, "Ref", 5), func(r *api.Ty) { r.Target = 0 }),
			with(row(api.TyRecord, "Rec", 6), func(r *api.Ty) {
				r.Disc, r.DiscName, r.Has, r.Default = 1, "D", true, 1
				r.Comps = []api.CompRow{
					{Name: "x", Sub: 0},
					{Name: "y", Sub: 2, Has: true, Default: 7, Variant: true, When: []int64{1}},
					{Name: "r", Sub: 5, Variant: true, When: []int64{0, 2}},
				}
			}),
			with(row(api.TyRecord, "Pair", 7), func(r *api.Ty) {
				r.Priv, r.Comps = 0, []api.CompRow{{Name: "a", Sub: 0, Has: true, Default: -3}, {Name: "b", Sub: 20}}
			}),
			with(row(api.TyFormal, "F", 8), func(r *api.Ty) { r.Formal, r.Limited = api.OfPrivate, true }),
			with(row(api.TyInt, "I", 9), func(r *api.Ty) { r.Formal = api.OfInteger }),
			with(row(api.TyEnum, "E", 10), func(r *api.Ty) { r.Formal = api.OfDiscrete }),
			with(row(api.TyArray, "Refs", 11), func(r *api.Ty) { r.Index, r.Elem = 10, 5 }),
			with(row(api.TyRecord, "Only", 21), func(r *api.Ty) { r.Disc, r.DiscName = 19, "Sign" }),
		},
		Subs: []api.Subt{
			// The first subtypes of the types 1 to 12.
			{T: 1, Lo: api.MinBase, Hi: api.MaxBase}, {T: 2, Lo: 0, Hi: 2}, {T: 3, Lo: 5, Hi: 9}, {T: 4, Lo: 1, Hi: 1}, {T: 5}, {T: 6},
			{T: 7, Lo: 0, Hi: -1}, {T: 8}, {T: 9}, {T: 10}, {T: 11}, {T: 12},
			// From 12 on: records with a fixed discriminant, subtypes without values, and others; 21 is the first subtype of 13.
			{T: 7, Lo: 1, Hi: 1}, {T: 7, Lo: 2, Hi: 2}, {T: 2, Lo: 1, Hi: 0}, {T: 2, Lo: 3, Hi: -1}, {T: 1, Lo: 5, Hi: 4},
			{T: 10, Lo: -7, Hi: 3}, {T: 11, Lo: 1, Hi: -1}, {T: 1, Lo: -1, Hi: 1}, {T: 6}, {T: 13, Lo: 0, Hi: -1},
		},
	}
}

// copied returns a table that shares no memory with another one.
func copied(t api.Table) api.Table {
	t.Types, t.Subs = slices.Clone(t.Types), slices.Clone(t.Subs)
	for i := range t.Types {
		r := &t.Types[i]
		r.Lits, r.Comps = slices.Clone(r.Lits), slices.Clone(r.Comps)
		for j := range r.Comps {
			r.Comps[j].When = slices.Clone(r.Comps[j].When)
		}
	}
	return t
}

// A maker makes random tables.
type maker struct{ *rand.Rand }

func newMaker(seed int64) maker { return maker{rand.New(rand.NewSource(seed))} }

func pick[E any](m maker, l ...E) E { return l[m.Intn(len(l))] }

func (m maker) yes(of int) bool { return m.Intn(of) == 0 }

// named returns n different names.
func (m maker) named(n int) []string {
	var l []string
	for _, i := range m.Perm(n + 5)[:n] {
		l = append(l, pick(m, "A", "b_", "Xx")+strconv.Itoa(i))
	}
	return l
}

// subs returns the subtypes for which something holds.
func (m maker) subs(t api.Table, may func(sub int) bool) []int {
	var l []int
	for sub := range t.Subs {
		if may(sub) {
			l = append(l, sub)
		}
	}
	return l
}

// few returns the scalar subtypes that have 1 to 64 values.
func (m maker) few(t api.Table) []int {
	return m.subs(t, func(sub int) bool { n := len(members(t, sub)); return n >= 1 && n <= 64 })
}

// simple returns the scalar subtypes that have values; and, if allowed, those of access types.
func (m maker) simple(t api.Table, refs bool) []int {
	return m.subs(t, func(sub int) bool {
		return len(members(t, sub)) > 0 || refs && kindOf(t, sub) == api.TyAccess
	})
}

// bounds returns bounds that are not empty.
func (m maker) bounds(lo, hi int64) (int64, int64) {
	a, b := lo+m.Int63n(hi-lo+1), lo+m.Int63n(hi-lo+1)
	return min(a, b), max(a, b)
}

// valid returns a valid table with at most so many types and subtypes.
func (m maker) valid(types, subs int) api.Table {
	t := api.Table{Types: []api.Ty{row(api.TyUniv, "", -1), row(api.TyInt, "Integer", 0)}, Subs: []api.Subt{{T: 1, Lo: api.MinBase, Hi: api.MaxBase}}}
	for range m.Intn(types - 1) {
		m.declare(&t)
		for range m.Intn(3) {
			m.constrain(&t)
		}
	}
	for len(t.Subs) < subs && !m.yes(subs) {
		m.constrain(&t)
	}
	return t
}

// declare adds a type with its first subtype.
func (m maker) declare(t *api.Table) {
	r := row(api.TyInt+api.TyKind(m.Intn(6)), m.named(1)[0], len(t.Subs))
	s := api.Subt{T: len(t.Types)}
	r.Level = m.Intn(4)
	if m.yes(4) {
		r.Priv, r.Full, r.Limited = m.Intn(9), m.Intn(99), m.yes(2)
	}
	parent := m.Intn(len(t.Types))
	switch p := t.Types[parent]; r.Kind {
	case api.TyInt:
		s.Lo, s.Hi = m.bounds(-4, 9)
		if m.yes(4) {
			r.Formal, s.Lo, s.Hi = api.OfInteger, 0, 0
		} else if p.Kind == r.Kind && p.Formal == api.NoOf {
			r.Parent = parent
		}
	case api.TyEnum:
		m.enumerate(&r, &s, p, parent)
	case api.TyArray:
		r.Index, r.Elem = 0, pick(m, m.simple(*t, true)...)
		if l := m.few(*t); len(l) > 0 {
			r.Index = pick(m, l...)
		} else {
			r.Kind, r.Index, r.Elem, r.Target = api.TyAccess, -1, -1, 0
		}
	case api.TyRecord:
		m.compose(*t, &r, &s)
	case api.TyAccess:
		r.Target = pick(m, m.simple(*t, false)...)
	case api.TyFormal:
		r.Formal, r.Limited = api.OfPrivate, m.yes(2)
	}
	t.Types, t.Subs = append(t.Types, r), append(t.Subs, s)
}

func (m maker) enumerate(r *api.Ty, s *api.Subt, p api.Ty, parent int) {
	switch {
	case m.yes(4):
		r.Formal = api.OfDiscrete
	case p.Kind == r.Kind && p.Formal == api.NoOf:
		r.Parent, r.Lits = parent, slices.Clone(p.Lits)
		s.Lo, s.Hi = m.bounds(0, int64(len(r.Lits))-1)
	default:
		r.Lits = m.named(1 + m.Intn(pick(m, 4, 64)))
		s.Hi = int64(len(r.Lits)) - 1
	}
}

func (m maker) compose(t api.Table, r *api.Ty, s *api.Subt) {
	names := m.named(17)
	var all []int64
	if l := m.few(t); len(l) > 0 && !m.yes(3) {
		r.Disc, r.DiscName, s.Hi = pick(m, l...), names[16], -1
		all = members(t, r.Disc)
		if m.yes(2) {
			r.Has, r.Default = true, pick(m, all...)
		}
	}
	least := 1
	if len(all) > 0 {
		least = 0
	}
	for i := range least + m.Intn(pick(m, 4, 17-least)) {
		c := api.CompRow{Name: names[i], Sub: pick(m, m.simple(t, true)...)}
		if l := members(t, c.Sub); len(l) > 0 && m.yes(2) {
			c.Has, c.Default = true, pick(m, l...)
		}
		if len(all) > 0 && m.yes(2) {
			c.Variant = true
			for _, v := range all {
				if m.yes(2) {
					c.When = append(c.When, v)
				}
			}
			if len(c.When) == 0 {
				c.When = all
			}
		}
		r.Comps = append(r.Comps, c)
	}
}

// constrain adds a subtype.
func (m maker) constrain(t *api.Table) {
	s := api.Subt{T: 1 + m.Intn(len(t.Types)-1)}
	r := t.Types[s.T]
	switch r.Kind {
	case api.TyInt:
		s.Lo, s.Hi = pick[int64](m, -70, -3, -1, 0, 1, api.MinBase), pick[int64](m, -3, -1, 0, 2, 6, api.MaxBase)
	case api.TyEnum:
		n := max(1, int64(len(r.Lits)))
		s.Lo, s.Hi = m.bounds(0, n-1)
		if m.yes(4) {
			s.Lo, s.Hi = pick(m, n, s.Hi+1), pick(m, -1, s.Lo-1, s.Lo)
		}
	case api.TyRecord:
		if r.Disc != -1 {
			s.Hi = -1
			if m.yes(2) {
				s.Lo = pick(m, members(*t, r.Disc)...)
				s.Hi = s.Lo
			}
		}
	}
	t.Subs = append(t.Subs, s)
}

// odd returns a number that may be too small or too great for anything.
func (m maker) odd() int64 {
	return pick[int64](m, -2, -1, 0, 1, 2, 3, 5, 7, 8, 15, 63, 64, 65, api.MinBase, api.MinBase-1, api.MaxBase, api.MaxBase+1, math.MinInt64, math.MinInt64+1, math.MaxInt64, math.MaxInt64-1)
}

// near returns a number about an index of a list of n elements.
func (m maker) near(n int) int {
	if m.yes(10) {
		return int(m.odd())
	}
	return m.Intn(n+3) - 2
}

func (m maker) text() string {
	return pick(m, "A", "A0", "b_1", "Xx2", "D", "x", "", "is", "1", "_a", "a b", "A.B", "nnnnnnnnnnnnnnnnnnnnnnnnnnnnnnnn", "nnnnnnnnnnnnnnnnnnnnnnnnnnnnnnnnn")
}

// disturb changes something in a table.
func (m maker) disturb(t *api.Table) {
	if len(t.Subs) > 0 && m.yes(3) {
		s := &t.Subs[m.Intn(len(t.Subs))]
		switch m.Intn(4) {
		case 0:
			s.T = m.near(len(t.Types))
		case 1:
			s.Lo = m.odd()
		case 2:
			s.Hi = m.odd()
		default:
			s.Lo += int64(m.Intn(3) - 1)
			s.Hi = s.Lo + int64(m.Intn(4)-1)
		}
		return
	}
	r := &t.Types[m.Intn(len(t.Types))]
	subs, types := m.near(len(t.Subs)), m.near(len(t.Types))
	changes := []func(){
		func() { r.Kind = api.TyKind(m.Intn(9)) }, func() { r.Name = m.text() }, func() { r.Parent = types }, func() { r.First = subs },
		func() { r.Lits = append(r.Lits, m.text()) }, func() { r.Lits = nil }, func() { r.Index = subs }, func() { r.Elem = subs },
		func() { r.Disc = subs }, func() { r.Disc = -1 }, func() { r.DiscName = m.text() }, func() { r.Has = !r.Has }, func() { r.Default = m.odd() },
		func() { r.Comps = nil }, func() { r.Comps = append(r.Comps, api.CompRow{Name: m.text(), Sub: subs}) },
		func() { r.Target = subs }, func() { r.Formal = api.OfKind(m.Intn(12)) }, func() { r.Limited = !r.Limited },
		func() { r.Priv = int(m.odd()) }, func() { r.Full = int(m.odd()) }, func() { r.Level = int(m.odd()) },
	}
	if len(r.Comps) > 0 && m.yes(2) {
		c := &r.Comps[m.Intn(len(r.Comps))]
		changes = []func(){
			func() { c.Name = m.text() }, func() { c.Name = r.Comps[m.Intn(len(r.Comps))].Name }, func() { c.Name = r.DiscName },
			func() { c.Sub = subs }, func() { c.Has = !c.Has }, func() { c.Default = m.odd() },
			func() { c.Variant = !c.Variant }, func() { c.When = append(c.When, m.odd()) }, func() { c.When = nil }, func() { slices.Reverse(c.When) },
		}
	}
	changes[m.Intn(len(changes))]()
}

// some returns a table that is valid, disturbed, or wild.
func (m maker) some() api.Table {
	t := m.valid(12, 30)
	for range pick(m, 0, 1, 2, 8, 100) {
		m.disturb(&t)
	}
	return t
}
