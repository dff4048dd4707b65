package shape_test

import (
	"math/rand"
	"reflect"
	"slices"
	"strings"

	"ceiling/api"
)

// A maker makes random things that are valid, but for the number of names in all groups.
type maker struct{ *rand.Rand }

func newMaker(seed int64) maker { return maker{rand.New(rand.NewSource(seed))} }

func (m maker) word() string {
	l := []string{"A", "B", "C", "X", "T", "x_9", "Begin", strings.Repeat("n", 32)}
	return l[m.Intn(len(l))]
}

func (m maker) words(most int) []string {
	l := []string{m.word()}
	for m.Intn(3) == 0 && len(l) < most {
		l = append(l, m.word())
	}
	return l
}

// expr returns an expression of any level, or one that is absent.
func (m maker) expr(perhaps bool) api.Expr {
	if perhaps && m.Intn(2) == 0 {
		return api.Expr{}
	}
	l := []string{
		"A", "1", "null", "P.T", "P.all", "A'First", "F (X, N => 1).all'Last", "T'(1)", "T'(A, B)", "(1, 2)", "(others => 1)", "(if A then B else C)", "not A", "- A", "+ (- A)", "A + B", "A - B * C",
		"A = B", "A in T", "A not in 1 .. 2", "A and B and C", "A or else B", "(A = B) = C", "(1 .. 2 | 3 => A, others => B)",
	}
	return ex(l[m.Intn(len(l))])
}

func (m maker) mark() api.Expr {
	s := m.word()
	for m.Intn(3) == 0 {
		s += "." + m.word()
	}
	return ex(s)
}

func (m maker) indic() api.Indic {
	s := api.Indic{Name: m.mark()}
	switch m.Intn(3) {
	case 0:
		s.Lo, s.Hi = m.expr(false), m.expr(false)
	case 1:
		s.Value = m.expr(false)
	}
	return s
}

func (m maker) disc() api.Disc {
	switch m.Intn(4) {
	case 0:
		return api.Disc{Name: m.mark()}
	case 1:
		return api.Disc{Name: ex([]string{"A'Index", "A.B (1)'Range", "A.all'B'C"}[m.Intn(3)])}
	case 2:
		return api.Disc{Lo: m.expr(false), Hi: m.expr(false)}
	}
	return api.Disc{Name: m.mark(), Lo: m.expr(false), Hi: m.expr(false)}
}

func (m maker) params() []api.Param {
	var l []api.Param
	for range m.Intn(5) {
		p := api.Param{Names: m.words(8), Mode: api.ModeIn + api.ModeKind(m.Intn(3)), Type: m.mark()}
		if p.Mode == api.ModeIn {
			p.E = m.expr(true)
		}
		l = append(l, p)
	}
	return l
}

func (m maker) aspects() []api.Aspect {
	var l []api.Aspect
	for range m.Intn(9) {
		l = append(l, api.Aspect{Name: m.word(), E: m.expr(false)})
	}
	return l
}

func (m maker) comps() []api.Comp {
	var l []api.Comp
	for range m.Intn(4) {
		l = append(l, api.Comp{Names: m.words(8), Sub: m.indic(), E: m.expr(true)})
	}
	return l
}

func (m maker) definition() api.TypeDef {
	t := api.TypeDef{Kind: api.TdEnum + api.TypeDefKind(m.Intn(8))}
	switch t.Kind {
	case api.TdEnum:
		t.Names = m.words(64)
	case api.TdRange:
		t.Lo, t.Hi = m.expr(false), m.expr(false)
	case api.TdDerived, api.TdAccess:
		t.Sub = m.indic()
	case api.TdArray:
		t.Disc, t.Sub = m.disc(), m.indic()
	case api.TdPrivate:
		t.Limited = m.Intn(2) == 0
	default:
		t.Kind = api.TdRecord
		t.Comps = m.comps()
		if m.Intn(2) == 0 {
			t.Var = m.word()
			for range 1 + m.Intn(3) {
				t.Arms = append(t.Arms, api.VarArm{Choices: m.choices(), Comps: m.comps()})
			}
		}
	}
	return t
}

func (m maker) choices() []api.Choice {
	if m.Intn(3) == 0 {
		return []api.Choice{{Kind: api.ChOthers}}
	}
	l := []api.Choice{{Kind: api.ChExpr, L: []api.Expr{m.expr(false)}}}
	if m.Intn(2) == 0 {
		l = append(l, api.Choice{Kind: api.ChRange, L: []api.Expr{m.expr(false), m.expr(false)}})
	}
	return l
}

// valid returns something valid of a kind.
func valid[T any](m maker, k kind[T]) T {
	for {
		if x := k.some(m); k.ref(x) {
			return x
		}
	}
}

// spoiled returns a copy of a value in which one field, or one element of a list, is another one.
func spoiled[T any](m maker, x T) T {
	y := copied(x, false)
	var places []reflect.Value
	var gather func(reflect.Value)
	gather = func(v reflect.Value) {
		places = append(places, v)
		switch {
		case v.Type() == reflect.TypeFor[api.Expr]():
			for _, f := range []string{"Line", "Ent", "T"} {
				places = append(places, v.FieldByName(f))
			}
		case v.Kind() == reflect.Struct:
			places = places[:len(places)-1]
			for i := range v.NumField() {
				gather(v.Field(i))
			}
		case v.Kind() == reflect.Slice:
			for i := range v.Len() {
				gather(v.Index(i))
			}
		}
	}
	gather(reflect.ValueOf(&y).Elem())
	m.change(places[m.Intn(len(places))])
	return y
}

// change sets a value to another one, or perhaps to the same.
func (m maker) change(v reflect.Value) {
	switch v.Kind() {
	case reflect.Struct: // an expression
		v.Set(reflect.ValueOf(m.odd()))
	case reflect.Slice:
		m.changeList(v)
	case reflect.String:
		v.SetString([]string{"", "if", "Y", "1", strings.Repeat("n", 33)}[m.Intn(5)])
	case reflect.Bool:
		v.SetBool(!v.Bool())
	case reflect.Uint8:
		v.SetUint([]uint64{0, 1, 2, 3, 4, 5, 6, 7, 8, 255}[m.Intn(10)])
	default:
		v.SetInt(v.Int() + 5)
	}
}

func (m maker) changeList(v reflect.Value) {
	n := v.Len()
	switch {
	case n > 0 && m.Intn(2) == 0:
		v.SetLen(n - 1)
	case n > 0 && m.Intn(2) == 0:
		for range 1 + m.Intn(33) {
			v.Set(reflect.Append(v, v.Index(0)))
		}
	default:
		v.Set(reflect.Append(v, reflect.Zero(v.Type().Elem())))
	}
}

// odd returns any expression, often one that is not valid.
func (m maker) odd() api.Expr {
	l := []api.Expr{{}, {Line: 5, Ent: 6, T: 7}, {S: "x"}, {L: []api.Expr{{}}}, {Kind: api.ExMonadic}, {Kind: api.ExName, S: "if"}, {Kind: api.ExInt, N: -1}, long(33)}
	if i := m.Intn(2 * len(l)); i < len(l) {
		return l[i]
	}
	return m.expr(false)
}

// long returns a mark of n names.
func long(n int) api.Expr {
	x := api.Expr{Kind: api.ExName, S: "A"}
	for range n - 1 {
		x = api.Expr{Kind: api.ExSelect, S: "A", L: []api.Expr{x}}
	}
	return x
}

// alphabet are all tokens that reading knows, one name, one integer, and some that it does not know.
var alphabet = func() []api.Token {
	var l []api.Token
	for _, s := range strings.Fields("A 1 ( ) , ; : := . .. ' => | - = in out range new array of access private limited null record case is when end others and begin") {
		l = append(l, unlined(lexed(s))...)
	}
	return append(l, api.Token{})
}()

// disturbed returns a copy of tokens with a few of them changed, dropped, added, or cut off.
func (m maker) disturbed(l []api.Token) []api.Token {
	l = slices.Clone(l)
	for range 1 + m.Intn(3) {
		i := m.Intn(len(l) + 1)
		t := alphabet[m.Intn(len(alphabet))]
		switch m.Intn(5) {
		case 0, 1:
			l = slices.Insert(l, i, t)
		case 2:
			if i < len(l) {
				l[i] = t
			}
		case 3:
			if i < len(l) {
				l = slices.Delete(l, i, i+1)
			}
		case 4:
			l = l[:i]
		}
	}
	return l
}

// lines gives tokens lines that go up.
func (m maker) lines(l []api.Token) []api.Token {
	l = slices.Clone(l)
	line := 1
	for i := range l {
		line += m.Intn(3)
		l[i].Line = line
	}
	return l
}
