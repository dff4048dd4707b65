package expr_test

import (
	"math/rand"
	"strings"

	"ceiling/api"
)

// A maker makes random expressions, all valid but for their size and depth.
type maker struct{ *rand.Rand }

func (m maker) word() string {
	l := []string{"A", "B", "C", "X", "Y", "F", "T", "x_9", "Begin", strings.Repeat("n", 32)}
	return l[m.Intn(len(l))]
}

// expr returns an expression that is nested at most depth deep, but for what a name of it needs.
func (m maker) expr(depth int) api.Expr {
	if depth <= 1 || m.Intn(5) == 0 {
		return m.leaf()
	}
	sub := func() api.Expr { return m.expr(depth - 1 - m.Intn(2)) }
	kinds := []api.ExprKind{api.ExIn, api.ExNotIn}
	switch m.Intn(10) {
	case 0:
		return one(api.OperPos+api.Operator(m.Intn(4)), sub())
	case 1, 2, 3, 4:
		return two(api.OperAdd+api.Operator(m.Intn(17)), sub(), sub())
	case 5:
		return of(kinds[m.Intn(2)], sub(), m.name(depth-1))
	case 6:
		return of(kinds[m.Intn(2)], sub(), sub(), sub())
	case 7:
		return of(api.ExIf, sub(), sub(), sub())
	case 8:
		return aggr(m.assocs(depth-1, 4)...)
	}
	return m.name(depth)
}

func (m maker) leaf() api.Expr {
	switch m.Intn(6) {
	case 0:
		return of(api.ExNull)
	case 1:
		return num([]int64{0, 1, 9, 10, 2147483647}[m.Intn(5)])
	}
	return name(m.word())
}

// name returns a name form.
func (m maker) name(depth int) api.Expr {
	if depth <= 1 {
		return name(m.word())
	}
	x := m.name(depth - 1 - m.Intn(3))
	switch m.Intn(6) {
	case 0:
		return with(api.ExSelect, m.word(), x)
	case 1:
		return of(api.ExDeref, x)
	case 2:
		return with(api.ExAttr, m.word(), x)
	case 3:
		return of(api.ExQual, x, m.expr(depth-1))
	}
	return call(x, m.args(depth-1)...)
}

func (m maker) args(depth int) []api.Assoc {
	n := 1 + m.Intn(3)
	from := m.Intn(n + 1)
	var l []api.Assoc
	for i := range n {
		a := value(m.expr(depth))
		if i >= from {
			a.Choices = []api.Choice{is(name(m.word()))}
		}
		l = append(l, a)
	}
	return l
}

func (m maker) assocs(depth, most int) []api.Assoc {
	n := 1 + m.Intn(most)
	from := m.Intn(n + 1)
	if n == 1 {
		from = 0
	}
	var l []api.Assoc
	for i := range n {
		a := value(m.expr(depth))
		if i >= from {
			a.Choices = m.choices(depth, i == n-1)
		}
		l = append(l, a)
	}
	return l
}

func (m maker) choices(depth int, last bool) []api.Choice {
	if last && m.Intn(3) == 0 {
		return []api.Choice{others}
	}
	var l []api.Choice
	for range 1 + m.Intn(3) {
		if m.Intn(3) == 0 {
			l = append(l, span(m.expr(depth), m.expr(depth)))
		} else {
			l = append(l, is(m.expr(depth)))
		}
	}
	return l
}

// spoil changes something of a copy of an expression, in it or in one of its parts.
func (m maker) spoil(e api.Expr) api.Expr {
	e = copied(e, false)
	all := []*api.Expr{}
	var gather func(*api.Expr)
	gather = func(x *api.Expr) {
		all = append(all, x)
		inside(x, gather)
	}
	gather(&e)
	x := all[m.Intn(len(all))]
	switch m.Intn(11) {
	case 0:
		x.Kind = api.ExprKind(m.Intn(17))
	case 1:
		x.Oper = api.Operator(m.Intn(24))
	case 2:
		x.N = []int64{-1 << 63, -1, 0, 1, 2147483647, 2147483648}[m.Intn(6)]
	case 3:
		x.S = []string{"", "if", "Y", "1", strings.Repeat("n", 33)}[m.Intn(5)]
	case 4:
		x.L = append(x.L, m.expr(2))
	case 5:
		x.L = x.L[:len(x.L)-min(1, len(x.L))]
	case 6:
		x.A = append(x.A, m.assocs(2, 2)...)
	case 7:
		x.A = x.A[:len(x.A)-min(1, len(x.A))]
	case 8:
		x.Line, x.Ent, x.T = 1, 2, 3
	case 9:
		*x = m.expr(3)
	case 10:
		m.spoilChoices(x)
	}
	return e
}

func (m maker) spoilChoices(x *api.Expr) {
	if len(x.A) == 0 {
		return
	}
	a := &x.A[m.Intn(len(x.A))]
	switch m.Intn(4) {
	case 0:
		a.Choices = append(a.Choices, m.choices(2, true)...)
	case 1:
		a.Choices = a.Choices[:len(a.Choices)-min(1, len(a.Choices))]
	case 2:
		if len(a.Choices) > 0 {
			a.Choices[0].Kind = api.ChoiceKind(m.Intn(5))
		}
	case 3:
		if len(a.Choices) > 0 {
			a.Choices[0].L = append(a.Choices[0].L, m.leaf())
		}
	}
}

// alphabet are all tokens that reading knows, one name, one integer, and some that it does not know.
var alphabet = func() []api.Token {
	l := []api.Token{{Kind: api.TokName, Text: "A"}, {Kind: api.TokInt, N: 1}}
	for _, s := range strings.Fields("+ - * / = /= < <= > >= ( ) , . ' .. => | ; :=") {
		l = append(l, api.Token{Kind: api.TokSym, Text: s})
	}
	for _, s := range strings.Fields("mod rem and or xor then else abs not in null all if others begin") {
		l = append(l, api.Token{Kind: api.TokKey, Text: s})
	}
	return l
}()

// disturbed returns a copy of tokens with a few of them changed, dropped, doubled or added.
func (m maker) disturbed(l []api.Token) []api.Token {
	l = append([]api.Token{}, l...)
	for range 1 + m.Intn(3) {
		i := m.Intn(len(l) + 1)
		t := alphabet[m.Intn(len(alphabet))]
		switch m.Intn(4) {
		case 0:
			l = append(l[:i], append([]api.Token{t}, l[i:]...)...)
		case 1:
			if i < len(l) {
				l[i] = t
			}
		case 2:
			if i < len(l) {
				l = append(l[:i], l[i+1:]...)
			}
		case 3:
			l = l[:i]
		}
	}
	return l
}

// lines gives tokens lines that go up.
func (m maker) lines(l []api.Token) []api.Token {
	l = append([]api.Token{}, l...)
	line := 1
	for i := range l {
		line += m.Intn(3)
		l[i].Line = line
	}
	return l
}
