package expr

import (
	"slices"

	"ceiling/api"
)

// Same reports whether two expressions are equal but for their lines, entities and types.
func Same(a, b api.Expr) bool {
	xs, ys := []*api.Expr{&a}, []*api.Expr{&b}
	for len(xs) > 0 {
		last := len(xs) - 1
		x, y := xs[last], ys[last]
		if !alike(x, y) {
			return false
		}
		xs, ys = append(xs[:last], parts(x)...), append(ys[:last], parts(y)...)
	}
	return true
}

// SameArgs reports the same of arguments and associations.
func SameArgs(a, b []api.Assoc) bool {
	return Same(api.Expr{A: a}, api.Expr{A: b})
}

// SameChoices reports the same of choices.
func SameChoices(a, b []api.Choice) bool {
	return SameArgs([]api.Assoc{{Choices: a}}, []api.Assoc{{Choices: b}})
}

// alike reports whether two expressions are equal but for their parts, of which they have as many at the same places.
func alike(a, b *api.Expr) bool {
	return a.Kind == b.Kind && a.Oper == b.Oper && a.N == b.N && a.S == b.S && len(a.L) == len(b.L) &&
		slices.EqualFunc(a.A, b.A, func(x, y api.Assoc) bool {
			return slices.EqualFunc(x.Choices, y.Choices, func(c, d api.Choice) bool {
				return c.Kind == d.Kind && len(c.L) == len(d.L)
			})
		})
}
