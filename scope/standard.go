package scope

import "ceiling/api"

// The types of Standard.
const (
	integer = 1
	boolean = 2
	time    = 3
)

// The subtypes of Standard.
const (
	ofInteger = iota
	ofBoolean
	ofTime
	ofNatural
	ofPositive
)

func standardTypes() []api.Ty {
	truths := predefinedType(api.TyEnum, "Boolean", ofBoolean)
	truths.Lits = []string{"False", "True"}
	return []api.Ty{
		predefinedType(api.TyUniv, "", -1),
		predefinedType(api.TyInt, "Integer", ofInteger),
		truths,
		predefinedType(api.TyInt, "Time", ofTime),
	}
}

func standardSubtypes() []api.Subt {
	return []api.Subt{
		{T: integer, Lo: api.MinBase, Hi: api.MaxBase},
		{T: boolean, Lo: 0, Hi: 1},
		{T: time, Lo: 0, Hi: api.MaxBase},
		{T: integer, Lo: 0, Hi: api.MaxBase},
		{T: integer, Lo: 1, Hi: api.MaxBase},
	}
}

func standardEntities() []api.Ent {
	standard := predefined(api.EnStandard, "Standard", -1, -1, 0)
	standard.Owner = -1
	return []api.Ent{
		standard,
		predefined(api.EnType, "Integer", integer, ofInteger, 0),
		predefined(api.EnType, "Boolean", boolean, ofBoolean, 0),
		predefined(api.EnLiteral, "False", boolean, -1, 0),
		predefined(api.EnLiteral, "True", boolean, -1, 1),
		predefined(api.EnType, "Time", time, ofTime, 0),
		predefined(api.EnSub, "Natural", integer, ofNatural, 0),
		predefined(api.EnSub, "Positive", integer, ofPositive, 0),
		predefined(api.EnExc, "Constraint_Error", -1, -1, api.ExcConstraint),
		predefined(api.EnExc, "Program_Error", -1, -1, api.ExcProgram),
		predefined(api.EnExc, "Tasking_Error", -1, -1, api.ExcTasking),
		predefined(api.EnExc, "End_Error", -1, -1, api.ExcEnd),
		predefinedProc("Put", api.ModeIn),
		predefinedProc("Get", api.ModeOut),
		predefined(api.EnFunc, "Clock", time, ofTime, 0),
	}
}

// predefinedType returns a type that uses no other number than its first subtype.
func predefinedType(kind api.TyKind, name string, first int) api.Ty {
	return api.Ty{Kind: kind, Name: name, Parent: -1, First: first, Index: -1, Elem: -1, Disc: -1, Target: -1, Priv: -1}
}

func predefined(kind api.EntKind, name string, ty, sub int, value int64) api.Ent {
	return api.Ent{Kind: kind, Name: name, T: ty, Sub: sub, Of: -1, Value: value, Body: true, Final: -1, Unit: -1}
}

func predefinedProc(name string, mode api.ModeKind) api.Ent {
	x := predefined(api.EnProc, name, -1, -1, 0)
	x.Params = []api.ParamRow{{Name: "X", Mode: mode, Sub: ofInteger, Ent: -1}}
	return x
}
