package static

import (
	"ceiling/api"
	"ceiling/table"
)

// none has no integer.
var none = api.Bounds{Lo: 0, Hi: -1}

func empty(b api.Bounds) bool { return b.Lo > b.Hi }

func has(b api.Bounds, v int64) bool { return b.Lo <= v && v <= b.Hi }

// within reports whether a number is an index of a list of n elements.
func within(i, n int) bool { return 0 <= i && i < n }

// span returns the range of a type; false: it has none.
func span(t api.Table, ty int) (api.Bounds, bool) {
	if !within(ty, len(t.Types)) {
		return none, false
	}
	r := t.Types[ty]
	switch {
	case r.Kind == api.TyUniv:
		return api.Bounds{Lo: -api.MaxValue, Hi: api.MaxValue}, true
	case r.Kind == api.TyInt && r.Formal == api.NoOf:
		return api.Bounds{Lo: api.MinBase, Hi: api.MaxBase}, true
	case r.Kind == api.TyEnum && r.Formal == api.NoOf:
		return api.Bounds{Lo: 0, Hi: int64(len(r.Lits)) - 1}, true
	}
	return none, false
}

// values returns the values of a scalar subtype; another one has none.
func values(t api.Table, sub int) api.Bounds {
	if lo, hi, ok := table.Range(t, sub); ok {
		return api.Bounds{Lo: lo, Hi: hi}
	}
	return none
}

// lies reports whether bounds are empty or values of a scalar subtype.
func lies(t api.Table, b api.Bounds, sub int) bool {
	all := values(t, sub)
	return empty(b) || has(all, b.Lo) && has(all, b.Hi)
}

// plain reports whether a subtype is scalar and its type has a range.
func plain(t api.Table, sub int) bool {
	if _, _, ok := table.Range(t, sub); !ok {
		return false
	}
	_, ok := span(t, t.Subs[sub].T)
	return ok
}

// entity returns an entity; the zero one if it does not exist.
func entity(t api.Table, ent int) api.Ent {
	if !within(ent, len(t.Ents)) {
		return api.Ent{}
	}
	return t.Ents[ent]
}

// denoted returns the entity that a name or an expanded name denotes; the zero one for any other expression.
func denoted(t api.Table, e *api.Expr) api.Ent {
	if e.Kind != api.ExName && e.Kind != api.ExSelect {
		return api.Ent{}
	}
	return entity(t, e.Ent)
}

// subtype reports whether an entity is a type or subtype.
func subtype(n api.Ent) bool { return n.Kind == api.EnType || n.Kind == api.EnSub }

// mark returns the subtype of a mark; false: the expression is none.
func mark(t api.Table, e *api.Expr) (int, bool) {
	n := denoted(t, e)
	if !subtype(n) {
		return 0, false
	}
	return n.Sub, true
}

// plainMark returns the subtype of a mark of a plain subtype; false: the expression is none.
func plainMark(t api.Table, e *api.Expr) (int, bool) {
	sub, ok := mark(t, e)
	if !ok || !plain(t, sub) {
		return 0, false
	}
	return sub, true
}

// operands returns the parts of an expression that must be static, in order; false: it is not static, whatever they are.
func operands(t api.Table, e *api.Expr) ([]*api.Expr, bool) {
	if _, ok := span(t, e.T); !ok {
		return nil, false
	}
	switch e.Kind {
	case api.ExInt:
		return nil, true
	case api.ExName, api.ExSelect:
		return nil, constant(entity(t, e.Ent))
	case api.ExAttr:
		_, ok := measured(t, e)
		return nil, ok
	case api.ExCall:
		return argument(t, e)
	case api.ExQual:
		return qualified(t, e)
	case api.ExIf:
		return exactly(e.L, 3)
	case api.ExMonadic:
		l, ok := exactly(e.L, 1)
		return l, ok && api.OperPos <= e.Oper && e.Oper <= api.OperNot
	case api.ExDyadic:
		l, ok := exactly(e.L, 2)
		return l, ok && api.OperAdd <= e.Oper && e.Oper <= api.OperElse
	case api.ExIn, api.ExNotIn:
		return tested(t, e)
	}
	return nil, false
}

// exactly returns the elements of a list, which must have n of them.
func exactly(l []api.Expr, n int) ([]*api.Expr, bool) {
	if len(l) != n {
		return nil, false
	}
	var out []*api.Expr
	for i := range l {
		out = append(out, &l[i])
	}
	return out, true
}

// constant reports whether an entity has a static value.
func constant(n api.Ent) bool {
	return n.Kind == api.EnNumber || n.Kind == api.EnLiteral || n.Kind == api.EnConst && n.Static
}

// measured returns the bounds of which an attribute is one, or the length; false: it is no static attribute.
func measured(t api.Table, e *api.Expr) (api.Bounds, bool) {
	if len(e.L) != 1 || e.S != "First" && e.S != "Last" && e.S != "Length" {
		return none, false
	}
	if sub, ok := plainMark(t, &e.L[0]); ok {
		return values(t, sub), e.S != "Length"
	}
	return indices(t, denoted(t, &e.L[0]))
}

// indices returns the values of the Index of an array, if an entity is one of a static Index or a subtype of such arrays.
func indices(t api.Table, n api.Ent) (api.Bounds, bool) {
	object := n.Kind == api.EnVar || n.Kind == api.EnConst || n.Kind == api.EnParam
	if !object && !subtype(n) || !within(n.Sub, len(t.Subs)) || !within(t.Subs[n.Sub].T, len(t.Types)) {
		return none, false
	}
	r := t.Types[t.Subs[n.Sub].T]
	if r.Kind != api.TyArray || !plain(t, r.Index) {
		return none, false
	}
	b := values(t, r.Index)
	return b, !empty(b)
}

// argument returns the argument of a static attribute or conversion.
func argument(t api.Table, e *api.Expr) ([]*api.Expr, bool) {
	if len(e.L) != 1 || len(e.A) != 1 {
		return nil, false
	}
	_, moved := shifted(t, &e.L[0])
	if !moved && !converting(t, entity(t, e.Ent)) {
		return nil, false
	}
	return []*api.Expr{&e.A[0].E}, true
}

// shifted returns the subtype of an attribute that takes a value of its type, or a position, to another one.
func shifted(t api.Table, e *api.Expr) (int, bool) {
	if e.Kind != api.ExAttr || len(e.L) != 1 {
		return 0, false
	}
	switch e.S {
	case "Pos", "Val", "Succ", "Pred":
		return plainMark(t, &e.L[0])
	}
	return 0, false
}

// converting reports whether values are converted to an entity statically.
func converting(t api.Table, n api.Ent) bool { return subtype(n) && plain(t, n.Sub) }

// qualified returns the operand of a static qualification.
func qualified(t api.Table, e *api.Expr) ([]*api.Expr, bool) {
	if len(e.L) != 2 {
		return nil, false
	}
	if _, ok := plainMark(t, &e.L[0]); !ok {
		return nil, false
	}
	return exactly(e.L[1:], 1)
}

// tested returns the operands of a static test of membership: of what is tested, and of the bounds of a range.
func tested(t api.Table, e *api.Expr) ([]*api.Expr, bool) {
	if len(e.L) != 2 {
		return exactly(e.L, 3)
	}
	if _, ok := plainMark(t, &e.L[1]); !ok {
		return nil, false
	}
	return exactly(e.L[:1], 1)
}
