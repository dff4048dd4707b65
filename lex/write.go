package lex

import (
	"strconv"
	"strings"

	"ceiling/api"
)

// maxIndent is the greatest depth of a line.
const maxIndent = 80

// Text returns the line that tokens are written as.
func Text(l []api.Token) (string, api.Errno) {
	if !exist(l) {
		return "", api.ErrArg
	}
	s, ok := written(api.Line{L: l})
	if !ok {
		return "", api.ErrLong
	}
	return s, api.OK
}

// Lines returns the text that lines of tokens are written as.
func Lines(l []api.Line) (string, api.Errno) {
	for _, x := range l {
		if x.Depth < 0 || x.Depth > maxIndent || !exist(x.L) {
			return "", api.ErrArg
		}
	}
	var b strings.Builder
	for _, x := range l {
		s, ok := written(x)
		if !ok || b.Len()+len(s)+1 > api.MaxSource {
			return "", api.ErrLong
		}
		b.WriteString(s)
		b.WriteByte('\n')
	}
	return b.String(), api.OK
}

// exist reports whether all tokens of a list exist.
func exist(l []api.Token) bool {
	for _, t := range l {
		if !May(t) {
			return false
		}
	}
	return true
}

// written returns an indented line of existing tokens, without a line feed; false: it would be too long.
func written(l api.Line) (string, bool) {
	var b strings.Builder
	b.WriteString(strings.Repeat(" ", 2*l.Depth))
	for i, t := range l.L {
		if i > 0 && apart(l.L[i-1], t) {
			b.WriteByte(' ')
		}
		if t.Kind == api.TokInt {
			b.WriteString(strconv.FormatInt(t.N, 10))
		} else {
			b.WriteString(t.Text)
		}
		if b.Len() > api.MaxLine {
			return "", false
		}
	}
	return b.String(), true
}

// apart reports whether a space stands between two tokens.
func apart(a, b api.Token) bool {
	// Only a symbol has the text of a symbol, so that kinds need not be looked at.
	switch b.Text {
	case ",", ";", ")", "'":
		return false
	}
	switch a.Text {
	case "(", "'":
		return false
	}
	if a.Text != "." && b.Text != "." {
		return true
	}
	// Full stops side by side would be read as one symbol.
	return stops(a.Text) && stops(b.Text)
}

// stops reports whether a text of a token consists of full stops.
func stops(s string) bool { return s == "." || s == ".." }
