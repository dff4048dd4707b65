package lex

import (
	"iter"
	"strings"

	"ceiling/api"
)

// maxDigits is how many digits an integer literal has at most, leading zeros included.
const maxDigits = 10

// Tokens returns the tokens of a text, or the line of the first error.
func Tokens(src string) (l []api.Token, line int, e api.Errno) {
	if len(src) > api.MaxSource {
		return nil, 0, api.ErrLong
	}
reading:
	for _, s := range strings.Split(src, "\n") {
		line++
		for t, ok := range tokens(s) {
			if !ok {
				e = api.ErrToken
				break reading
			}
			if len(l) == api.MaxTokens {
				e = api.ErrLong
				break reading
			}
			t.Line = line
			l = append(l, t)
		}
	}
	if e != api.OK {
		return nil, line, e
	}
	return l, 0, api.OK
}

// tokens goes over the tokens of a line; a false stands for what is in error.
func tokens(line string) iter.Seq2[api.Token, bool] {
	return func(yield func(api.Token, bool) bool) {
		end := 0 // of the token before
		for at, c := range line {
			if at < end || c == ' ' {
				continue
			}
			rest := line[at:]
			if strings.HasPrefix(rest, "--") {
				if !printable(rest) {
					yield(api.Token{}, false)
				}
				return
			}
			s := piece(rest)
			t, ok := token(s)
			if !yield(t, ok) {
				return
			}
			end = at + len(s)
		}
	}
}

// printable reports whether a comment consists of bytes that are allowed in it.
func printable(s string) bool {
	for _, c := range s {
		if c < 32 || c > 126 {
			return false
		}
	}
	return true
}

// piece returns the bytes that the first token of s consists of, if s, which is not empty, begins with one.
func piece(s string) string {
	if n := word(s); n > 0 {
		return s[:n]
	}
	if len(s) > 1 && Symbol(s[:2]) {
		return s[:2]
	}
	return s[:1]
}

// token returns the token that s, which is not empty, is in a text; false: it is none.
func token(s string) (api.Token, bool) {
	switch {
	case Name(s):
		return api.Token{Kind: api.TokName, Text: s}, true
	case Key(s):
		return api.Token{Kind: api.TokKey, Text: s}, true
	case Symbol(s):
		return api.Token{Kind: api.TokSym, Text: s}, true
	}
	n, ok := literal(s)
	if !ok {
		return api.Token{}, false
	}
	return api.Token{Kind: api.TokInt, N: n}, true
}

// literal returns the integer that s, which is not empty, is in a text; false: it is none.
func literal(s string) (int64, bool) {
	if len(s) > maxDigits {
		return 0, false
	}
	var n int64
	for _, c := range s {
		if !digit(c) {
			return 0, false
		}
		n = 10*n + int64(c-'0')
	}
	if n > api.MaxLiteral {
		return 0, false
	}
	return n, true
}
