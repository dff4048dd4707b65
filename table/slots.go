package table

import (
	"math"

	"ceiling/api"
)

// none has no integer; a record with a discriminant that is not fixed has these bounds too.
var none = api.Bounds{Lo: 0, Hi: -1}

func empty(b api.Bounds) bool { return b.Lo > b.Hi }

func has(b api.Bounds, v int64) bool { return b.Lo <= v && v <= b.Hi }

// few reports whether there are 1 to most integers from one bound to the other.
func few(b api.Bounds, most uint64) bool {
	// The difference may be too great for an int64, but not for a uint64.
	return !empty(b) && uint64(b.Hi)-uint64(b.Lo) < most
}

// rows returns the rows of a subtype and of its type; both are zero if one of them does not exist.
func rows(t api.Table, sub int) (api.Subt, api.Ty) {
	if !within(sub, len(t.Subs)) || !within(t.Subs[sub].T, len(t.Types)) {
		return api.Subt{}, api.Ty{}
	}
	s := t.Subs[sub]
	return s, t.Types[s.T]
}

// values returns the values of a scalar subtype; another one has none.
func values(t api.Table, sub int) api.Bounds {
	if lo, hi, ok := Range(t, sub); ok {
		return api.Bounds{Lo: lo, Hi: hi}
	}
	return none
}

// possible returns the values that a slot of a subtype can have.
func possible(t api.Table, sub int) api.Bounds {
	_, ty := rows(t, sub)
	switch ty.Kind {
	case api.TyAccess:
		return api.Bounds{Lo: 0, Hi: api.MaxObjs}
	case api.TyFormal:
		return api.Bounds{Lo: math.MinInt64, Hi: math.MaxInt64}
	}
	return values(t, sub)
}

// plain returns the value of a slot without a default value, which can have these values.
func plain(b api.Bounds) int64 {
	if has(b, 0) {
		return 0
	}
	return b.Lo
}

// indices returns the values of the Index of an array type, one for each element.
func indices(t api.Table, ty api.Ty) api.Bounds {
	b := values(t, ty.Index)
	if !few(b, api.MaxElems) {
		return none
	}
	return b
}

// ahead returns the number of slots of a record ahead of its components: 1 if it has a discriminant.
func ahead(ty api.Ty) int {
	if ty.Disc == -1 {
		return 0
	}
	return 1
}

// fixed reports whether a subtype is one of records whose discriminant has one value.
func fixed(s api.Subt, ty api.Ty) bool {
	return ty.Kind == api.TyRecord && ahead(ty) > 0 && s.Lo == s.Hi
}

// chosen returns the value that the rows of a subtype choose for a slot; false: they choose none.
func chosen(s api.Subt, ty api.Ty, slot int) (int64, bool) {
	switch {
	case ty.Kind != api.TyRecord:
		return 0, false
	case slot >= ahead(ty):
		c := ty.Comps[slot-ahead(ty)]
		return c.Default, c.Has
	case fixed(s, ty):
		return s.Lo, true
	}
	return ty.Default, ty.Has
}

// position returns the index of the first element with a key; -1: none has it.
func position[E any, K comparable](l []E, keyOf func(E) K, key K) int {
	for i, x := range l {
		if keyOf(x) == key {
			return i
		}
	}
	return -1
}

func nameOfComp(c api.CompRow) string { return c.Name }
