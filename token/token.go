// Package token makes tokens and goes over them. It is no layer: those that read and write forms of the language share it.
package token

import (
	"ceiling/api"
	"ceiling/lex"
)

// Fixed returns a symbol or a reserved word as a token.
func Fixed(s string) api.Token {
	if lex.Key(s) {
		return api.Token{Kind: api.TokKey, Text: s}
	}
	return api.Token{Kind: api.TokSym, Text: s}
}

// A Cursor stands in front of the token At of L, or behind the last one.
type Cursor struct {
	L  []api.Token
	At int
}

// Ahead returns the token that is i tokens behind the next one, and the zero token if it is not there.
func (c *Cursor) Ahead(i int) api.Token {
	if i >= len(c.L)-c.At {
		return api.Token{}
	}
	return c.L[c.At+i]
}

// Sees reports whether the token that is i tokens behind the next one is this symbol or reserved word.
func (c *Cursor) Sees(i int, s string) bool {
	t := c.Ahead(i)
	return t.Text == s && t.Kind == Fixed(s).Kind
}

// Takes reads this symbol or reserved word if it is next.
func (c *Cursor) Takes(s string) bool {
	if !c.Sees(0, s) {
		return false
	}
	c.At++
	return true
}

// Named reports whether a TokName is next.
func (c *Cursor) Named() bool { return c.Ahead(0).Kind == api.TokName }
