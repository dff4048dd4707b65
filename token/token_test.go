package token_test

import (
	"slices"
	"testing"

	"ceiling/api"
	"ceiling/token"
)

func TestFixed(t *testing.T) {
	for s, kind := range map[string]api.TokenKind{"if": api.TokKey, "others": api.TokKey, "(": api.TokSym, "=>": api.TokSym} {
		if x := token.Fixed(s); x != (api.Token{Kind: kind, Text: s}) {
			t.Error(x)
		}
	}
}

func TestCursor(t *testing.T) {
	l := []api.Token{token.Fixed("if"), {Kind: api.TokName, Text: "is"}, token.Fixed(";"), {Kind: api.TokKey, Text: "(", Line: 7, N: 9}}
	c := token.Cursor{L: l[:3]}
	if c.Ahead(0) != l[0] || c.Ahead(2) != l[2] || c.Ahead(3) != (api.Token{}) || c.Ahead(1<<63-1) != (api.Token{}) {
		t.Error("ahead")
	}
	if !c.Sees(0, "if") || !c.Sees(2, ";") || c.Sees(1, "if") || c.Sees(1, "is") || c.Sees(3, "(") || c.At != 0 {
		t.Error("sees")
	}
	if c.Takes(";") || c.At != 0 || !c.Takes("if") || c.At != 1 || c.Takes("is") || c.At != 1 {
		t.Error("takes", c.At)
	}
	c.At++
	if !c.Takes(";") || c.Takes(";") || c.Takes("(") || c.At != 3 || c.Ahead(0) != (api.Token{}) {
		t.Error("end", c.At)
	}
	if c = (token.Cursor{L: l, At: 3}); c.Sees(0, "(") || c.Takes("(") {
		t.Error("a symbol of the wrong kind")
	}
}

func TestList(t *testing.T) {
	var w token.List
	w.Fixed("type", "(")
	w.Name("A")
	w.Put()
	w.Put(api.Token{Kind: api.TokInt, N: 5}, token.Fixed(")"))
	want := []api.Token{{Kind: api.TokKey, Text: "type"}, {Kind: api.TokSym, Text: "("}, {Kind: api.TokName, Text: "A"}, {Kind: api.TokInt, N: 5}, {Kind: api.TokSym, Text: ")"}}
	if !slices.Equal(w.L, want) {
		t.Error(w.L)
	}
}
