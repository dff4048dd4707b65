package token

import "ceiling/api"

// A Reader reads tokens from left to right. Where a token that must come next is not there it calls Miss, which ends reading, or leaves no tokens, so that all forms come to their ends.
type Reader struct {
	Cursor
	Miss func()
}

// Must reads these symbols and reserved words.
func (r *Reader) Must(l ...string) {
	for _, s := range l {
		if !r.Takes(s) {
			r.Miss()
		}
	}
}

// Name reads a TokName.
func (r *Reader) Name() string {
	s := r.Ahead(0).Text
	if r.Named() {
		r.At++
	} else {
		r.Miss()
	}
	return s
}

// Names reads TokName { , TokName }.
func (r *Reader) Names() []string { return Several(r.Name, r.Separator(",")) }

// Mark reads TokName { . TokName }.
func (r *Reader) Mark() api.Expr {
	line := r.Ahead(0).Line
	x := api.Expr{Kind: api.ExName, S: r.Name(), Line: line}
	for r.Takes(".") {
		x = api.Expr{Kind: api.ExSelect, S: r.Name(), L: []api.Expr{x}, Line: line}
	}
	return x
}

// Separator returns a function that reads this symbol if it is next.
func (r *Reader) Separator(s string) func() bool {
	return func() bool { return r.Takes(s) }
}

// Several reads an item, and further ones as long as there are more.
func Several[T any](item func() T, more func() bool) []T {
	l := []T{item()}
	for more() {
		l = append(l, item())
	}
	return l
}
