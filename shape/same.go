package shape

import (
	"slices"

	"ceiling/api"
	"ceiling/expr"
)

// SameIndic reports whether two indications are equal.
func SameIndic(a, b api.Indic) bool {
	return expr.Same(a.Name, b.Name) && expr.Same(a.Lo, b.Lo) && expr.Same(a.Hi, b.Hi) && expr.Same(a.Value, b.Value)
}

// SameDisc reports whether two discrete ranges are equal.
func SameDisc(a, b api.Disc) bool {
	return expr.Same(a.Name, b.Name) && expr.Same(a.Lo, b.Lo) && expr.Same(a.Hi, b.Hi)
}

// SameParams reports whether parameters are equal.
func SameParams(a, b []api.Param) bool {
	return slices.EqualFunc(a, b, func(p, q api.Param) bool {
		return slices.Equal(p.Names, q.Names) && p.Mode == q.Mode && expr.Same(p.Type, q.Type) && expr.Same(p.E, q.E)
	})
}

// SameAspects reports whether aspects are equal.
func SameAspects(a, b []api.Aspect) bool {
	return slices.EqualFunc(a, b, func(x, y api.Aspect) bool {
		return x.Name == y.Name && expr.Same(x.E, y.E)
	})
}

// SameComps reports whether components are equal.
func SameComps(a, b []api.Comp) bool {
	return slices.EqualFunc(a, b, func(c, d api.Comp) bool {
		return slices.Equal(c.Names, d.Names) && SameIndic(c.Sub, d.Sub) && expr.Same(c.E, d.E)
	})
}

// SameType reports whether two type definitions are equal.
func SameType(a, b api.TypeDef) bool {
	return a.Kind == b.Kind && slices.Equal(a.Names, b.Names) && expr.Same(a.Lo, b.Lo) && expr.Same(a.Hi, b.Hi) &&
		SameIndic(a.Sub, b.Sub) && SameDisc(a.Disc, b.Disc) && SameComps(a.Comps, b.Comps) &&
		a.Var == b.Var && slices.EqualFunc(a.Arms, b.Arms, sameArm) && a.Limited == b.Limited
}

func sameArm(a, b api.VarArm) bool {
	return expr.SameChoices(a.Choices, b.Choices) && SameComps(a.Comps, b.Comps)
}
