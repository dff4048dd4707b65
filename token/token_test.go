package token_test

import (
	"slices"
	"testing"

	"ceiling/api"
	"ceiling/token"
)

func TestFixed(t *testing.T) {
	for s, kind := range map[string]api.TokenKind{"if": api.TokKey, "others": api.TokKey, "(": api.TokSym, "=>": api.TokSym} {
		if x := token.Fixed(s); x != (api.Token{Kind: kind, Text: s}) {
			t.Error(x)
		}
	}
}

func TestCursor(t *testing.T) {
	l := []api.Token{token.Fixed("if"), {Kind: api.TokName, Text: "is"}, token.Fixed(";"), {Kind: api.TokKey, Text: "(", Line: 7, N: 9}}
	c := token.Cursor{L: l[:3]}
	if c.Ahead(0) != l[0] || c.Ahead(2) != l[2] || c.Ahead(3) != (api.Token{}) || c.Ahead(1<<63-1) != (api.Token{}) {
		t.Error("ahead")
	}
	if !c.Sees(0, "if") || !c.Sees(2, ";") || c.Sees(1, "if") || c.Sees(1, "is") || c.Sees(3, "(") || c.At != 0 {
		t.Error("sees")
	}
	if c.Takes(";") || c.At != 0 || !c.Takes("if") || c.At != 1 || c.Takes("is") || c.At != 1 {
		t.Error("takes", c.At)
	}
	c.At++
	if !c.Takes(";") || c.Takes(";") || c.Takes("(") || c.At != 3 || c.Ahead(0) != (api.Token{}) {
		t.Error("end", c.At)
	}
	if c = (token.Cursor{L: l, At: 3}); c.Sees(0, "(") || c.Takes("(") {
		t.Error("a symbol of the wrong kind")
	}
}

func TestList(t *testing.T) {
	var w token.List
	w.Fixed("type", "(")
	w.Name("A")
	w.Put()
	w.Put(api.Token{Kind: api.TokInt, N: 5}, token.Fixed(")"))
	want := []api.Token{{Kind: api.TokKey, Text: "type"}, {Kind: api.TokSym, Text: "("}, {Kind: api.TokName, Text: "A"}, {Kind: api.TokInt, N: 5}, {Kind: api.TokSym, Text: ")"}}
	if !slices.Equal(w.L, want) {
		t.Error(w.L)
	}
}

// missed is what the readers of these tests end with.
type missed int

// reads calls f with a reader of tokens, and returns the index at which it missed a token, or that behind all that it has read.
func reads(l []api.Token, f func(r *token.Reader)) (at int) {
	r := &token.Reader{Cursor: token.Cursor{L: l}}
	r.Miss = func() { panic(missed(r.At)) }
	defer func() {
		if x, ok := recover().(missed); ok {
			at = -1 - int(x)
		}
	}()
	f(r)
	return r.At
}

func TestReader(t *testing.T) {
	name := func(s string, line int) api.Token { return api.Token{Kind: api.TokName, Text: s, Line: line} }
	l := []api.Token{name("A", 3), token.Fixed("."), name("B", 4), token.Fixed(","), name("C", 5), token.Fixed(","), token.Fixed("is"), token.Fixed(";")}
	if n := reads(l, func(r *token.Reader) {
		if !r.Named() || r.Name() != "A" || r.Named() {
			t.Error("name")
		}
	}); n != 1 {
		t.Error(n)
	}
	if n := reads(l[2:5], func(r *token.Reader) {
		if x := r.Names(); !slices.Equal(x, []string{"B", "C"}) {
			t.Error(x)
		}
	}); n != 3 {
		t.Error(n)
	}
	if n := reads(l, func(r *token.Reader) {
		x := r.Mark()
		if x.Kind != api.ExSelect || x.S != "B" || x.Line != 3 || len(x.L) != 1 || x.L[0].Kind != api.ExName || x.L[0].S != "A" || x.L[0].Line != 3 {
			t.Error(x)
		}
	}); n != 3 {
		t.Error(n)
	}
	for i, x := range []struct {
		l []api.Token
		f func(*token.Reader)
		n int
	}{
		{l[6:], func(r *token.Reader) { r.Must("is", ";") }, 2}, {l[6:], func(r *token.Reader) { r.Must() }, 0}, {l[6:], func(r *token.Reader) { r.Must("is", "is") }, -2}, {l, func(r *token.Reader) { r.Must("is") }, -1}, {nil, func(r *token.Reader) { r.Must(";") }, -1},
		{l[1:], func(r *token.Reader) { r.Name() }, -1}, {nil, func(r *token.Reader) { r.Name() }, -1}, {l[2:], func(r *token.Reader) { r.Names() }, -5}, {l[2:4], func(r *token.Reader) { r.Names() }, -3}, {l[:2], func(r *token.Reader) { r.Mark() }, -3}, {l[6:], func(r *token.Reader) { r.Mark() }, -1},
	} {
		if n := reads(x.l, x.f); n != x.n {
			t.Error(i, n)
		}
	}
}

// Where Miss leaves no tokens instead of ending reading, all forms come to their ends.
func TestReaderGoesOn(t *testing.T) {
	r := &token.Reader{}
	r.L = []api.Token{{Kind: api.TokName, Text: "A"}, token.Fixed(","), token.Fixed("is")}
	n := 0
	r.Miss = func() { n, r.Cursor = n+1, token.Cursor{} }
	r.Names()
	r.Mark()
	r.Must(";", ";")
	if n != 4 || r.At != 0 {
		t.Error(n, r.At)
	}
}

func TestPage(t *testing.T) {
	var p token.Page
	p.Names([]string{"A", "B"})
	p.End(2)
	token.Listed(&p.List, []string{"if", "then", "else"}, ";", func(s string) { p.Fixed(s) })
	p.End(-1)
	p.End(0)
	p.Fixed("end")
	name := func(s string) api.Token { return api.Token{Kind: api.TokName, Text: s} }
	want := []api.Line{
		{Depth: 2, L: []api.Token{name("A"), token.Fixed(","), name("B")}},
		{Depth: -1, L: []api.Token{token.Fixed("if"), token.Fixed(";"), token.Fixed("then"), token.Fixed(";"), token.Fixed("else")}}, {},
	}
	if !slices.EqualFunc(p.Lines, want, func(a, b api.Line) bool { return a.Depth == b.Depth && slices.Equal(a.L, b.L) }) || !slices.Equal(p.L, []api.Token{token.Fixed("end")}) {
		t.Error(p)
	}
}
