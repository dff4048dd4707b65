package static_test

import (
	"math"
	"math/rand"
	"reflect"
	"slices"
	"testing"

	"ceiling/api"
	"ceiling/static"
)

// A maker makes random expressions and choices of a table.
type maker struct {
	*rand.Rand
	t api.Table
}

func newMaker(seed int64) *maker { return &maker{rand.New(rand.NewSource(seed)), world()} }

func pick[E any](m *maker, l ...E) E { return l[m.Intn(len(l))] }

func (m *maker) yes(of int) bool { return m.Intn(of) == 0 }

// some returns an entity for which something holds; -1 if there is none.
func (m *maker) some(may func(n *api.Ent) bool) int {
	var l []int
	for i := range m.t.Ents {
		if may(&m.t.Ents[i]) {
			l = append(l, i)
		}
	}
	if len(l) == 0 {
		return -1
	}
	return pick(m, l...)
}

// ty returns a type, most often one that has a range.
func (m *maker) ty() int {
	if m.yes(80) {
		return m.Intn(16) - 2
	}
	return pick(m, univ, univ, univ, integer, integer, integer, small, boolean, boolean, color)
}

func (m *maker) named(ent int) api.Expr {
	x := api.Expr{Kind: pick(m, api.ExName, api.ExSelect), S: "x", Ent: ent, T: m.ty()}
	if x.Kind == api.ExSelect {
		x.L = []api.Expr{{Kind: api.ExName, S: "P"}}
	}
	return x
}

// mark returns a mark, most often of a plain subtype.
func (m *maker) mark() api.Expr {
	return m.named(m.some(func(n *api.Ent) bool {
		e := api.Expr{Kind: api.ExName, Ent: slices.IndexFunc(m.t.Ents, func(x api.Ent) bool { return x.Name == n.Name })}
		return isMark(m.t, e) && (isPlainMark(m.t, e) || m.yes(40))
	}))
}

// leaf returns an expression without operands.
func (m *maker) leaf() api.Expr {
	switch m.Intn(8) {
	case 0, 1:
		return m.named(m.some(func(n *api.Ent) bool { return among(n, api.EnNumber, api.EnLiteral) || n.Static || m.yes(100) }))
	case 2:
		return api.Expr{Kind: api.ExAttr, S: pick(m, "First", "Last"), L: []api.Expr{m.mark()}, Ent: -1, T: m.ty()}
	case 3:
		array := m.some(func(n *api.Ent) bool { return n.T == vector || n.T == tints || m.yes(100) })
		return api.Expr{Kind: api.ExAttr, S: pick(m, "First", "Last", "Length"), L: []api.Expr{m.named(array)}, Ent: -1, T: m.ty()}
	}
	return api.Expr{Kind: api.ExInt, N: pick[int64](m, 0, 0, 1, 1, 2, 3, 4, 5, 9, 10, -1, -4, api.MaxBase, api.MinBase, 1<<61, 1<<62), Ent: -1, T: m.ty()}
}

// expr returns an expression that is nested at most depth deep, most often a static one.
func (m *maker) expr(depth int) api.Expr {
	if depth <= 1 || m.yes(6) {
		return m.leaf()
	}
	some := func(n int) []api.Expr {
		var l []api.Expr
		for range n {
			l = append(l, m.expr(depth-1))
		}
		return l
	}
	x := api.Expr{Ent: -1, T: m.ty()}
	switch m.Intn(12) {
	case 0:
		x.Kind, x.L, x.A = api.ExCall, []api.Expr{{Kind: api.ExAttr, S: pick(m, "Pos", "Val", "Succ", "Pred"), L: []api.Expr{m.mark()}}}, []api.Assoc{{E: m.expr(depth - 1)}}
	case 1:
		x.Kind, x.L, x.A = api.ExCall, []api.Expr{m.mark()}, []api.Assoc{{E: m.expr(depth - 1)}}
		x.Ent = x.L[0].Ent
	case 2:
		x.Kind, x.L = api.ExQual, append([]api.Expr{m.mark()}, some(1)...)
	case 3:
		x.Kind, x.L = api.ExIf, some(3)
	case 4, 5:
		x.Kind, x.Oper, x.L = api.ExMonadic, api.OperPos+api.Operator(m.Intn(4)), some(1)
	case 6:
		x.Kind, x.L = pick(m, api.ExIn, api.ExNotIn), append(some(1), m.mark())
	case 7:
		x.Kind, x.L = pick(m, api.ExIn, api.ExNotIn), some(3)
	default:
		x.Kind, x.Oper, x.L = api.ExDyadic, api.OperAdd+api.Operator(m.Intn(17)), some(2)
	}
	return x
}

// nodes returns all expressions in an expression.
func nodes(x *api.Expr) []*api.Expr {
	l := []*api.Expr{x}
	for i := range x.L {
		l = append(l, nodes(&x.L[i])...)
	}
	for i := range x.A {
		l = append(l, nodes(&x.A[i].E)...)
	}
	return l
}

// disturb changes something in an expression.
func (m *maker) disturb(x *api.Expr) {
	n := pick(m, nodes(x)...)
	switch m.Intn(9) {
	case 0:
		n.Kind = api.ExprKind(m.Intn(17))
	case 1:
		n.Oper = api.Operator(m.Intn(25))
	case 2:
		n.N = pick[int64](m, 0, 1, -1, math.MaxInt64, math.MinInt64)
	case 3:
		n.S = pick(m, "First", "Last", "Length", "Pos", "Val", "Succ", "Pred", "", "x")
	case 4:
		n.L = n.L[:m.Intn(len(n.L)+1)]
	case 5:
		n.L = append(n.L, m.expr(2))
	case 6:
		n.A = append(n.A, api.Assoc{E: m.expr(2)})
	case 7:
		n.Ent = m.Intn(len(m.t.Ents)+4) - 2
	default:
		n.T = m.Intn(17) - 2
	}
}

// shake changes some rows of the table, so that it may be not valid any more.
func (m *maker) shake() {
	m.t = world()
	for range m.Intn(6) {
		sub, r, n := &m.t.Subs[m.Intn(len(m.t.Subs))], &m.t.Types[m.Intn(len(m.t.Types))], &m.t.Ents[m.Intn(len(m.t.Ents))]
		odd := pick[int64](m, -1, 0, 1, 2, 5, 9, 1<<62, -1<<62, math.MaxInt64, math.MinInt64)
		switch m.Intn(9) {
		case 0:
			sub.T = m.Intn(17) - 2
		case 1:
			sub.Lo = odd
		case 2:
			sub.Hi = odd
		case 3:
			r.Kind = api.TyKind(m.Intn(9))
		case 4:
			r.Formal = api.OfKind(m.Intn(3))
		case 5:
			r.Index = m.Intn(20) - 2
		case 6:
			n.Kind, n.Static = api.EntKind(m.Intn(21)), m.yes(2)
		case 7:
			n.Sub = m.Intn(20) - 2
		default:
			n.Value = odd
		}
	}
}

// random calls a function for random expressions of valid and other tables.
func random(seed int64, count, depth int, f func(m *maker, x api.Expr)) {
	m := newMaker(seed)
	for range count {
		m.t = world()
		if m.yes(3) {
			m.shake()
		}
		x := m.expr(1 + m.Intn(depth))
		for range pick(m, 0, 0, 0, 1, 3) {
			m.disturb(&x)
		}
		f(m, x)
	}
}

// P7.1: Is and Value of random expressions.
func TestRandomValues(t *testing.T) {
	counts := map[api.Errno]int{}
	random(1, 40000, 5, func(m *maker, x api.Expr) {
		v, e := found(m.t, x)
		gives(t, x, m.t, x, v, e)
		if t.Failed() {
			t.FailNow()
		}
		if len(x.L) > 0 {
			counts[e]++
		}
	})
	if counts[api.OK] < 5000 || counts[api.ErrValue] < 5000 || counts[api.ErrStatic] < 5000 {
		t.Error(counts)
	}
}

// choice returns a choice.
func (m *maker) choice() api.Choice {
	switch m.Intn(10) {
	case 0:
		return api.Choice{Kind: api.ChOthers}
	case 1:
		return api.Choice{Kind: api.ChExpr, L: []api.Expr{m.mark()}}
	case 2, 3:
		a := pick[int64](m, 0, 1, 2, 3, 5, 8)
		return api.Choice{Kind: api.ChRange, L: []api.Expr{lit(a), lit(a + int64(m.Intn(4)-1))}}
	case 4:
		if m.yes(10) {
			return api.Choice{Kind: api.ChoiceKind(m.Intn(5)), L: []api.Expr{m.expr(2), m.expr(2), m.expr(2)}[:m.Intn(4)]}
		}
		return api.Choice{Kind: api.ChRange, L: []api.Expr{m.expr(3), m.expr(3)}}
	case 5:
		return api.Choice{Kind: api.ChExpr, L: []api.Expr{m.expr(3)}}
	}
	return api.Choice{Kind: api.ChExpr, L: []api.Expr{lit(int64(m.Intn(10)))}}
}

// P7.2: Range and Choices of random expressions and choices.
func TestRandomChoices(t *testing.T) {
	ranges, lists := map[api.Errno]int{}, map[api.Errno]int{}
	random(2, 40000, 3, func(m *maker, x api.Expr) {
		sub := pick(m, -1, ofDigit, ofColor, ofInteger, ofInteger, m.Intn(19)-2)
		y := m.expr(2)
		got, e := static.Range(m.t, sub, x, y)
		if want, why := ranged(m.t, sub, x, y); got != want || e != why {
			t.Fatal(sub, x, y, got, e, "not", want, why)
		}
		ranges[e]++
		var l []api.Choice
		for range m.Intn(4) {
			l = append(l, m.choice())
		}
		b, others, e := static.Choices(m.t, sub, l)
		if want, open, why := chosen(m.t, sub, l); !slices.Equal(b, want) || others != open || e != why {
			t.Fatal(sub, l, b, others, e, "not", want, open, why)
		}
		lists[e]++
	})
	for _, e := range []api.Errno{api.OK, api.ErrStatic, api.ErrValue, api.ErrRange} {
		if ranges[e] < 500 || lists[e] < 500 {
			t.Error(e, ranges, lists)
		}
	}
}

// partition returns lists of choices that nearly cover a subtype, in some order.
func (m *maker) partition(lo, hi int64) [][]api.Choice {
	var l [][]api.Choice
	for v := lo; v <= hi; {
		to := min(hi, v+int64(m.Intn(3)))
		c := api.Choice{Kind: api.ChRange, L: []api.Expr{lit(v), lit(to)}}
		if to == v && m.yes(2) {
			c = api.Choice{Kind: api.ChExpr, L: []api.Expr{lit(v)}}
		}
		if m.yes(3) && len(l) > 0 {
			l[len(l)-1] = append(l[len(l)-1], c)
		} else {
			l = append(l, []api.Choice{c})
		}
		v = to + 1
	}
	m.Shuffle(len(l), func(i, j int) { l[i], l[j] = l[j], l[i] })
	if m.yes(3) {
		l = append(l, []api.Choice{{Kind: api.ChOthers}})
	}
	if len(l) == 0 {
		return nil
	}
	at := m.Intn(len(l))
	switch m.Intn(6) {
	case 0:
		l = slices.Delete(l, at, at+1)
	case 1:
		l[at] = append(l[at], m.choice())
	case 2:
		l = append(l, []api.Choice{m.choice()})
	case 3:
		l[at] = nil
	}
	return l
}

// covers calls a function for random lists of choices that nearly cover a subtype of a valid table.
func covers(seed int64, count int, f func(m *maker, sub int, l [][]api.Choice)) {
	m := newMaker(seed)
	for range count {
		sub := pick(m, ofColor, ofWarm, ofSmall, ofDigit, ofSign, ofBoolean, ofNone, ofWhole, ofVector, ofPrivate, -1)
		s := api.Subt{Hi: -1}
		if isScalar(m.t, sub) {
			s = m.t.Subs[sub]
		}
		f(m, sub, m.partition(s.Lo, s.Hi))
	}
}

// P7.2: Cover of random lists.
func TestRandomCover(t *testing.T) {
	counts := map[api.Errno]int{}
	covers(3, 60000, func(m *maker, sub int, l [][]api.Choice) {
		e := static.Cover(m.t, sub, l)
		if want := covered(m.t, sub, l); e != want {
			t.Fatal(sub, l, e, "not", want)
		}
		counts[e]++
	})
	for _, e := range []api.Errno{api.OK, api.ErrCover, api.ErrRange, api.ErrStatic, api.ErrValue} {
		if counts[e] < 200 {
			t.Error(counts)
		}
	}
}

// Arguments are not changed, whatever they are.
func TestArgumentsUnchanged(t *testing.T) {
	random(4, 2000, 4, func(m *maker, x api.Expr) {
		l := [][]api.Choice{{m.choice(), {Kind: api.ChExpr, L: []api.Expr{copied(x)}}, m.choice()}, {m.choice()}}
		tab := m.t
		tab.Types, tab.Subs, tab.Ents = slices.Clone(tab.Types), slices.Clone(tab.Subs), slices.Clone(tab.Ents)
		var before [][]api.Choice
		for _, one := range l {
			one = slices.Clone(one)
			for i := range one {
				one[i].L = copied(api.Expr{L: one[i].L}).L
			}
			before = append(before, one)
		}
		static.Cover(m.t, ofInteger, l)
		static.Choices(m.t, ofInteger, l[0])
		static.Range(m.t, ofInteger, x, x)
		if !reflect.DeepEqual(l, before) || !reflect.DeepEqual(tab, m.t) {
			t.Fatal("changed")
		}
	})
}
