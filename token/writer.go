package token

import "ceiling/api"

// A List has the tokens that have been put into it.
type List struct{ L []api.Token }

// Put puts tokens.
func (w *List) Put(l ...api.Token) { w.L = append(w.L, l...) }

// Fixed puts symbols and reserved words.
func (w *List) Fixed(l ...string) {
	for _, s := range l {
		w.Put(Fixed(s))
	}
}

// Name puts a name.
func (w *List) Name(s string) { w.Put(api.Token{Kind: api.TokName, Text: s}) }

// Names puts names with commas between them.
func (w *List) Names(l []string) { Listed(w, l, ",", w.Name) }

// Listed puts items into w, with a separator between them.
func Listed[T any](w *List, l []T, separator string, item func(T)) {
	for i, x := range l {
		if i > 0 {
			w.Fixed(separator)
		}
		item(x)
	}
}

// A Page has lines, and as its List the tokens of the line that is not ended yet.
type Page struct {
	List
	Lines []api.Line
}

// End ends a line.
func (p *Page) End(depth int) {
	p.Lines = append(p.Lines, api.Line{Depth: depth, L: p.L})
	p.L = nil
}
