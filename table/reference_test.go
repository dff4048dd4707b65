package table_test

import (
	"math"
	"reflect"
	"regexp"
	"slices"
	"strings"

	"ceiling/api"
	"ceiling/lex"
)

// named has the fields that a row of each kind uses.
var named = map[api.TyKind]string{
	api.TyUniv:   "Kind",
	api.TyInt:    "Kind Name First Level Priv Full Limited Parent Formal",
	api.TyEnum:   "Kind Name First Level Priv Full Limited Parent Formal Lits",
	api.TyArray:  "Kind Name First Level Priv Full Limited Index Elem",
	api.TyRecord: "Kind Name First Level Priv Full Limited Disc DiscName Has Default Comps",
	api.TyAccess: "Kind Name First Level Priv Full Limited Target",
	api.TyFormal: "Kind Name First Level Priv Full Limited Formal",
}

// blank reports whether the fields of a type that are not used are -1 or zero.
func blank(r api.Ty, used string) bool {
	v := reflect.ValueOf(r)
	for i := range v.NumField() {
		name := v.Type().Field(i).Name
		switch {
		case slices.Contains(strings.Fields(used), name):
		case slices.Contains(strings.Fields("Parent First Index Elem Disc Target Priv"), name):
			if v.Field(i).Int() != -1 {
				return false
			}
		case v.Field(i).Kind() == reflect.Slice:
			if v.Field(i).Len() > 0 {
				return false
			}
		case !v.Field(i).IsZero():
			return false
		}
	}
	return true
}

var word = regexp.MustCompile(`^[A-Za-z][A-Za-z0-9_]{0,31}$`)

func isName(s string) bool { return word.MatchString(s) && !lex.Key(s) }

func differ(l []string) bool {
	met := map[string]bool{}
	for _, s := range l {
		if !isName(s) || met[s] {
			return false
		}
		met[s] = true
	}
	return true
}

// kindOf returns the kind of a subtype.
func kindOf(t api.Table, sub int) api.TyKind {
	if sub < 0 || sub >= len(t.Subs) {
		return api.NoTy
	}
	if ty := t.Subs[sub].T; ty >= 0 && ty < len(t.Types) {
		return t.Types[ty].Kind
	}
	return api.NoTy
}

func scalar(t api.Table, sub int) bool {
	return kindOf(t, sub) == api.TyInt || kindOf(t, sub) == api.TyEnum
}

// members returns the values of a scalar subtype, the least ones if there are more than 100.
func members(t api.Table, sub int) []int64 {
	var l []int64
	if !scalar(t, sub) {
		return nil
	}
	for v := t.Subs[sub].Lo; v <= t.Subs[sub].Hi && len(l) < 100; v++ {
		l = append(l, v)
		if v == math.MaxInt64 {
			break
		}
	}
	return l
}

func isMember(t api.Table, sub int, v int64) bool {
	return scalar(t, sub) && v >= t.Subs[sub].Lo && v <= t.Subs[sub].Hi
}

// held reports whether a slot of a subtype can have a value.
func held(t api.Table, sub int, v int64) bool {
	switch kindOf(t, sub) {
	case api.TyAccess:
		return v >= 0 && v <= 2048
	case api.TyFormal:
		return true
	}
	return isMember(t, sub, v)
}

// slots returns the subtypes of the slots of a variable.
func slots(t api.Table, sub int) []int {
	switch kindOf(t, sub) {
	case api.TyInt, api.TyEnum, api.TyAccess, api.TyFormal:
		return []int{sub}
	case api.TyArray:
		r := t.Types[t.Subs[sub].T]
		n := len(members(t, r.Index))
		if n > 64 {
			return nil
		}
		return slices.Repeat([]int{r.Elem}, n)
	case api.TyRecord:
		r := t.Types[t.Subs[sub].T]
		var l []int
		if r.Disc != -1 {
			l = append(l, r.Disc)
		}
		for _, c := range r.Comps {
			l = append(l, c.Sub)
		}
		return l
	}
	return nil
}

func fits(t api.Table, sub int, v []int64) bool {
	l := slots(t, sub)
	if len(l) == 0 || len(l) != len(v) {
		return false
	}
	for i, of := range l {
		if !held(t, of, v[i]) {
			return false
		}
	}
	if s := t.Subs[sub]; t.Types[s.T].Kind == api.TyRecord && t.Types[s.T].Disc != -1 && s.Lo == s.Hi {
		return v[0] == s.Lo
	}
	return true
}

// initial returns the default values of a variable.
func initial(t api.Table, sub int) []int64 {
	var out []int64
	l := slots(t, sub)
	for _, of := range l {
		switch all := members(t, of); {
		case len(all) > 0 && !isMember(t, of, 0):
			out = append(out, all[0])
		case len(all) > 0 || kindOf(t, of) == api.TyAccess || kindOf(t, of) == api.TyFormal:
			out = append(out, 0)
		default:
			return nil
		}
	}
	if kindOf(t, sub) != api.TyRecord {
		return out
	}
	s, r := t.Subs[sub], t.Types[t.Subs[sub].T]
	for i, c := range r.Comps {
		if c.Has {
			out[len(l)-len(r.Comps)+i] = c.Default
		}
	}
	if r.Disc != -1 && r.Has {
		out[0] = r.Default
	}
	if r.Disc != -1 && s.Lo == s.Hi {
		out[0] = s.Lo
	}
	return out
}

// element returns the slot of an element; -1: there is none.
func element(t api.Table, sub int, index int64) int {
	if kindOf(t, sub) != api.TyArray {
		return -1
	}
	l := members(t, t.Types[t.Subs[sub].T].Index)
	if len(l) > 64 {
		return -1
	}
	return slices.Index(l, index)
}

// component returns the slot of a component or discriminant, and whether it exists for a value; -1: there is none.
func component(t api.Table, sub int, name string, disc int64) (int, bool) {
	if kindOf(t, sub) != api.TyRecord {
		return -1, false
	}
	r := t.Types[t.Subs[sub].T]
	at := 0
	if r.Disc != -1 {
		if r.DiscName == name {
			return 0, true
		}
		at = 1
	}
	for i, c := range r.Comps {
		if c.Name == name {
			return at + i, !c.Variant || slices.Index(c.When, disc) >= 0
		}
	}
	return -1, false
}

func root(t api.Table, ty int) int {
	if ty < 0 || ty >= len(t.Types) {
		return -1
	}
	if p := t.Types[ty].Parent; p >= 0 && p < ty {
		return root(t, p)
	}
	return ty
}

func alike(t api.Table, a, b int) bool {
	if min(a, b) < 0 || max(a, b) >= len(t.Subs) {
		return false
	}
	x, y := t.Subs[a], t.Subs[b]
	return x.T == y.T && x.Lo == y.Lo && x.Hi == y.Hi
}

func converts(t api.Table, from, to int) bool {
	if min(from, to) < 0 || max(from, to) >= len(t.Types) {
		return false
	}
	a, b := t.Types[from], t.Types[to]
	both := func(l ...api.TyKind) bool { return slices.Contains(l, a.Kind) && slices.Contains(l, b.Kind) }
	return from == to || both(api.TyUniv, api.TyInt) || both(api.TyEnum) && root(t, from) == root(t, to) || both(api.TyAccess) && alike(t, a.Target, b.Target)
}

// valid reports whether a table is valid, one clause of the chapter after the other.
func valid(t api.Table) bool {
	if len(t.Types) < 1 || len(t.Types) > 256 || len(t.Subs) > 512 {
		return false
	}
	for i, r := range t.Types {
		used, ok := named[r.Kind]
		if !ok || !blank(r, used) || (r.Kind == api.TyUniv) != (i == 0) {
			return false
		}
		if i > 0 && (!validType(t, i, r) || !validKind(t, i, r)) {
			return false
		}
	}
	return !slices.ContainsFunc(t.Subs, func(s api.Subt) bool { return !validSub(t, s) })
}

func validType(t api.Table, i int, r api.Ty) bool {
	if !isName(r.Name) || r.First < 0 || r.First >= len(t.Subs) || t.Subs[r.First].T != i || r.Level < 0 || r.Priv < -1 || r.Full < 0 {
		return false
	}
	if r.Priv == -1 && (r.Full != 0 || r.Limited && r.Kind != api.TyFormal) {
		return false
	}
	if r.Parent == -1 {
		return true
	}
	if r.Parent < 0 || r.Parent >= i {
		return false
	}
	p := t.Types[r.Parent]
	return p.Kind == r.Kind && p.Formal == r.Formal && r.Formal == api.NoOf && slices.Equal(p.Lits, r.Lits)
}

func validKind(t api.Table, i int, r api.Ty) bool {
	lo, hi := t.Subs[r.First].Lo, t.Subs[r.First].Hi
	point := lo == 0 && hi == 0
	switch r.Kind {
	case api.TyInt:
		return r.Formal == api.NoOf && lo <= hi || r.Formal == api.OfInteger && point
	case api.TyEnum:
		n := len(r.Lits)
		all := lo == 0 && hi == int64(n)-1
		return r.Formal == api.NoOf && n >= 1 && n <= 64 && differ(r.Lits) && lo <= hi && (r.Parent != -1 || all) || r.Formal == api.OfDiscrete && n == 0 && point
	case api.TyArray:
		n := len(members(t, r.Index))
		return n >= 1 && n <= 64 && (len(members(t, r.Elem)) > 0 || kindOf(t, r.Elem) == api.TyAccess)
	case api.TyRecord:
		return validRecord(t, r, lo, hi)
	case api.TyAccess:
		return len(members(t, r.Target)) > 0
	}
	return r.Formal == api.OfPrivate
}

func validRecord(t api.Table, r api.Ty, lo, hi int64) bool {
	if r.Disc == -1 && (r.DiscName != "" || r.Has || r.Default != 0 || len(r.Comps) == 0) || len(r.Comps) > 16 {
		return false
	}
	if r.Disc != -1 {
		n := len(members(t, r.Disc))
		if n < 1 || n > 64 || !isName(r.DiscName) || r.Has && !isMember(t, r.Disc, r.Default) || !r.Has && r.Default != 0 || lo != 0 || hi != -1 {
			return false
		}
	}
	var l []string
	if r.Disc != -1 {
		l = append(l, r.DiscName)
	}
	for _, c := range r.Comps {
		l = append(l, c.Name)
		if len(members(t, c.Sub)) == 0 && kindOf(t, c.Sub) != api.TyAccess {
			return false
		}
		if c.Has && !isMember(t, c.Sub, c.Default) || !c.Has && c.Default != 0 {
			return false
		}
		if c.Variant != (len(c.When) > 0) || c.Variant && r.Disc == -1 {
			return false
		}
		sorted := slices.Compact(slices.Sorted(slices.Values(c.When)))
		if !slices.Equal(sorted, c.When) || slices.ContainsFunc(c.When, func(v int64) bool { return !isMember(t, r.Disc, v) }) {
			return false
		}
	}
	return differ(l)
}

func validSub(t api.Table, s api.Subt) bool {
	if s.T < 1 || s.T >= len(t.Types) {
		return false
	}
	r := t.Types[s.T]
	switch {
	case r.Kind == api.TyInt:
		return s.Lo >= -1<<31 && s.Lo < 1<<31 && s.Hi >= -1<<31 && s.Hi < 1<<31
	case r.Kind == api.TyEnum:
		n := int64(len(r.Lits))
		if r.Formal == api.OfDiscrete {
			n = 1
		}
		return min(s.Lo, s.Hi) >= -1 && max(s.Lo, s.Hi) <= n && (s.Lo > s.Hi || s.Lo >= 0 && s.Hi < n)
	case r.Kind == api.TyRecord && r.Disc != -1:
		return s.Lo == 0 && s.Hi == -1 || s.Lo == s.Hi && isMember(t, r.Disc, s.Lo)
	}
	return s.Lo == 0 && s.Hi == 0
}
