package scope_test

import (
	"math"
	"math/rand"
	"slices"
	"strconv"
	"strings"
	"testing"

	"ceiling/api"
)

// kinds has the kinds of entities, in their order.
const kinds = "none standard package proc func type sub var const number literal exc task prot entry param loop label accept"

// row reads an entity: its kind, name (- is none), owner and type, and more of it. A library unit has the unit 0, any other entity -1.
func row(t *testing.T, text string) api.Ent {
	t.Helper()
	f := strings.Fields(text)
	l := numbers(t, f[2]+" "+f[3])
	x := api.Ent{Kind: api.EntKind(slices.Index(strings.Fields(kinds), f[0])), Name: strings.TrimPrefix(f[1], "-"), Owner: l[0], T: l[1], Sub: -1, Of: -1, Final: -1, Unit: -1}
	for _, s := range f[4:] {
		word, n, _ := strings.Cut(s, "=")
		switch word {
		case "private":
			x.Part = api.PaPrivate
		case "body":
			x.Part = api.PaBody
		case "unit":
			x.Unit = 0
		case "generic":
			x.Generic = true
		case "ren":
			x.Ren = true
		case "of":
			x.Of = numbers(t, n)[0]
		case "par":
			x.Params = append(x.Params, api.ParamRow{Name: "P" + strconv.Itoa(len(x.Params)), Mode: api.ModeIn, Sub: numbers(t, n)[0], Ent: -1})
		default:
			t.Fatal(text)
		}
	}
	return x
}

// numbers reads integers with spaces between them.
func numbers(t *testing.T, text string) []int {
	t.Helper()
	var l []int
	for _, s := range strings.Fields(text) {
		n, err := strconv.Atoi(s)
		if err != nil {
			t.Fatal(err)
		}
		l = append(l, n)
	}
	return l
}

// build puts entities behind those of a table, whatever they are.
func build(t *testing.T, tab api.Table, rows ...string) api.Table {
	t.Helper()
	tab.Ents = slices.Clone(tab.Ents)
	for _, r := range rows {
		tab.Ents = append(tab.Ents, row(t, r))
	}
	return tab
}

// copied returns a table that shares no memory with another one, as far as this layer looks at it.
func copied(t api.Table) api.Table {
	t.Types, t.Subs, t.Ents = slices.Clone(t.Types), slices.Clone(t.Subs), slices.Clone(t.Ents)
	for i := range t.Ents {
		t.Ents[i].Params = slices.Clone(t.Ents[i].Params)
	}
	return t
}

// A maker makes random tables and places.
type maker struct{ *rand.Rand }

func newMaker(seed int64) maker { return maker{rand.New(rand.NewSource(seed))} }

func pick[E any](m maker, l ...E) E { return l[m.Intn(len(l))] }

func (m maker) yes(of int) bool { return m.Intn(of) == 0 }

// near returns a number about an index of a list of n elements.
func (m maker) near(n int) int {
	if m.yes(20) {
		return pick(m, -1, n, math.MaxInt, math.MinInt, -2)
	}
	return m.Intn(n+2) - 1
}

// subset returns some of the numbers below n, in any order.
func (m maker) subset(n, of int) []int {
	var l []int
	for _, i := range m.Perm(n) {
		if m.yes(of) {
			l = append(l, i)
		}
	}
	return l
}

// isRegion reports whether entities are declared in those of a kind.
func isRegion(k api.EntKind) bool {
	return slices.Contains([]api.EntKind{api.EnStandard, api.EnPackage, api.EnProc, api.EnTask, api.EnProt, api.EnLabel}, k)
}

// region returns a number, most often that of a region, and rather a late one.
func (m maker) region(t api.Table) int {
	for range 20 {
		e := m.Intn(len(t.Ents) + 1)
		if m.yes(2) {
			e = max(e, m.Intn(len(t.Ents)+1))
		}
		if e < len(t.Ents) && isRegion(t.Ents[e].Kind) {
			return e
		}
	}
	return pick(m, 0, m.near(len(t.Ents)))
}

func (m maker) name() string { return pick(m, "a", "a", "a", "a", "b", "b", "c", "") }

// leaf returns the kind of an entity that declares nothing.
func (m maker) leaf() api.EntKind {
	return pick(m, api.EnFunc, api.EnFunc, api.EnFunc, api.EnFunc, api.EnFunc, api.EnLiteral, api.EnLiteral, api.EnEntry, api.EnProc, api.EnVar, api.EnConst, api.EnType)
}

// ent returns an entity for the end of a table.
func (m maker) ent(t api.Table) api.Ent {
	x := api.Ent{Kind: m.leaf(), Name: m.name(), Owner: m.region(t), T: pick(m, 1, 1, 2), Sub: -1, Of: -1, Final: -1, Unit: m.Intn(3)}
	if m.yes(3) {
		x.Kind = pick(m, api.EnPackage, api.EnPackage, api.EnPackage, api.EnPackage, api.EnProc, api.EnTask, api.EnProt, api.EnLabel)
		x.Generic = m.yes(4)
	}
	if m.yes(4) {
		x.Part = pick(m, api.PaPrivate, api.PaBody)
	}
	for range pick(m, 0, 0, 0, 1, 1, 2) {
		x.Params = append(x.Params, api.ParamRow{Name: m.name(), Sub: pick(m, 0, 0, 1, 3, -1), Ent: -1})
	}
	if m.yes(6) {
		x.Of, x.Ren = m.near(len(t.Ents)), !m.yes(3)
		if x.Ren && x.Of >= 0 && x.Of < len(t.Ents) && !m.yes(4) {
			x.Kind = t.Ents[x.Of].Kind
		}
	}
	if m.yes(3) {
		x.Unit = -1
	}
	return x
}

// start returns a table with types, subtypes and Standard.
func (m maker) start() api.Table {
	return api.Table{
		Types: []api.Ty{{Kind: api.TyUniv, Priv: -1}, {Kind: api.TyInt, Priv: -1}, {Kind: api.TyEnum, Priv: -1}},
		Subs:  []api.Subt{{T: 1}, {T: 2}, {T: 0}, {T: 1, Lo: 1}},
		Ents:  []api.Ent{{Kind: api.EnStandard, Name: pick(m, "Standard", "a"), Owner: -1, T: -1, Sub: -1, Of: -1, Unit: -1}},
	}
}

// wild returns a table with at most so many entities, not all of whose numbers have to make sense.
func (m maker) wild(most int) api.Table {
	t := m.start()
	for range m.Intn(most) {
		t.Ents = append(t.Ents, m.ent(t))
	}
	for i := range t.Types {
		if m.yes(2) {
			t.Types[i].Priv, t.Types[i].Full = m.near(len(t.Ents)), m.near(len(t.Ents))
		}
	}
	for range pick(m, 0, 0, 1, 3, 20) {
		m.disturb(&t)
	}
	return t
}

// disturb changes something in a table.
func (m maker) disturb(t *api.Table) {
	x := &t.Ents[m.Intn(len(t.Ents))]
	switch m.Intn(10) {
	case 0:
		x.Kind = api.EntKind(m.Intn(22))
	case 1:
		x.Owner = m.near(len(t.Ents))
	case 2:
		x.Of, x.Ren = m.near(len(t.Ents)), true
	case 3:
		x.Unit = m.near(3)
	case 4:
		x.T = m.near(3)
	case 5:
		x.Part = api.PartKind(m.Intn(5))
	case 6:
		x.Generic = !x.Generic
	case 7:
		x.Params = []api.ParamRow{{Sub: m.near(len(t.Subs))}}
	case 8:
		t.Subs = t.Subs[:m.Intn(len(t.Subs)+1)]
		if len(t.Subs) > 0 {
			t.Subs[0].T = m.near(3)
		}
	default:
		x.Name = m.name()
	}
}

// where returns a place.
func (m maker) where(t api.Table) api.Where {
	n := len(t.Ents)
	w := api.Where{Region: m.region(t), After: n, Units: m.subset(n, pick(m, 1, 2, 3, 9)), Uses: m.subset(n, pick(m, 1, 1, 2, 4))}
	if m.yes(3) {
		w.Region = m.Intn(min(n, 4))
	}
	if m.yes(3) {
		w.After = m.near(n)
	}
	if m.yes(6) {
		w.Region = m.near(n)
	}
	for range pick(m, 0, 0, 1, 2) {
		w.Units, w.Uses = append(w.Units, m.near(n)), append(w.Uses, m.near(n))
	}
	return w
}
