package lex_test

import (
	"math/rand"
	"regexp"
	"strconv"
	"strings"

	"ceiling/api"
)

// reserved are the reserved words, as the chapter lists them.
var reserved = strings.Fields(`abort abs accept access aliased all and array begin body case constant declare delay do else
	elsif end entry exception exit for function generic if in is limited loop mod new not null of or others out package pragma
	private procedure protected raise range record rem renames requeue return reverse select separate subtype task terminate
	then type until use when while with xor`)

// symbols are the symbols, as the chapter lists them.
var symbols = strings.Fields("=> .. := /= <= >= <> ( ) , ; : . ' + - * / = < > |")

func name(line int, s string) api.Token { return api.Token{Kind: api.TokName, Line: line, Text: s} }

func key(line int, s string) api.Token { return api.Token{Kind: api.TokKey, Line: line, Text: s} }

func sym(line int, s string) api.Token { return api.Token{Kind: api.TokSym, Line: line, Text: s} }

func number(line int, n int64) api.Token { return api.Token{Kind: api.TokInt, Line: line, N: n} }

var (
	skipped   = regexp.MustCompile(`^(?: |\n|--[ -~]*(?:\n|$))`)
	worded    = regexp.MustCompile(`^[A-Za-z0-9_]+`)
	named     = regexp.MustCompile(`^[A-Za-z][A-Za-z0-9_]{0,31}$`)
	digits    = regexp.MustCompile(`^[0-9]{1,10}$`)
	symbolled = regexp.MustCompile(`^(?:=>|\.\.|:=|/=|<=|>=|<>|[(),;:.'+*/=<>|]|-(?:[^-]|$))`)
)

// split is a reference of Tokens, by regular expressions.
func split(src string) (l []api.Token, line int, e api.Errno) {
	if len(src) > 65536 {
		return nil, 0, api.ErrLong
	}
	line = 1
	for src != "" {
		if s := skipped.FindString(src); s != "" {
			line += strings.Count(s, "\n")
			src = src[len(s):]
			continue
		}
		t, n := front(src)
		if n == 0 {
			return nil, line, api.ErrToken
		}
		if len(l) == 8192 {
			return nil, line, api.ErrLong
		}
		t.Line = line
		l = append(l, t)
		src = src[n:]
	}
	return l, 0, api.OK
}

// front returns the token that a text begins with, and how many bytes it has there; 0: it begins with none.
func front(src string) (api.Token, int) {
	if s := worded.FindString(src); s != "" {
		n, err := strconv.ParseInt(s, 10, 64)
		switch {
		case contains(reserved, s):
			return key(0, s), len(s)
		case named.MatchString(s):
			return name(0, s), len(s)
		case digits.MatchString(s) && err == nil && n <= 2147483647:
			return number(0, n), len(s)
		}
		return api.Token{}, 0
	}
	s := symbolled.FindString(src)
	if strings.HasPrefix(s, "-") {
		s = "-" // without the byte that is looked at behind it
	}
	return sym(0, s), len(s)
}

// joined is a reference of Text for tokens that exist: the rules of the chapter, one by one.
func joined(l []api.Token) string {
	s := ""
	for i, t := range l {
		if i > 0 && !tight(l[i-1], t) {
			s += " "
		}
		s += spelt(t)
	}
	return s
}

func spelt(t api.Token) string {
	if t.Kind == api.TokInt {
		return strconv.FormatInt(t.N, 10)
	}
	return t.Text
}

func tight(a, b api.Token) bool {
	one, two := spelt(a), spelt(b)
	return contains([]string{",", ";", ")", "'"}, two) ||
		contains([]string{"(", "'"}, one) ||
		one == "." && two != "." && two != ".." ||
		two == "." && one != "." && one != ".."
}

func contains(l []string, s string) bool {
	for _, x := range l {
		if x == s {
			return true
		}
	}
	return false
}

// unlined returns tokens without their lines.
func unlined(l []api.Token) []api.Token { return moved(l, func(int) int { return 0 }) }

// moved returns tokens with other lines.
func moved(l []api.Token, f func(int) int) []api.Token {
	var m []api.Token
	for _, t := range l {
		t.Line = f(t.Line)
		m = append(m, t)
	}
	return m
}

// someToken returns a token that exists.
func someToken(r *rand.Rand) api.Token {
	switch r.Intn(6) {
	case 0:
		return name(r.Intn(9), []string{"a", "Z9_", "end_", "If", strings.Repeat("x", 32)}[r.Intn(5)])
	case 1:
		return key(r.Intn(9), reserved[r.Intn(len(reserved))])
	case 2:
		return number(r.Intn(9), []int64{0, 7, 10, 2147483646, 2147483647}[r.Intn(5)])
	}
	return sym(r.Intn(9), symbols[r.Intn(len(symbols))])
}

func someTokens(r *rand.Rand, most int) []api.Token {
	l := make([]api.Token, r.Intn(most+1))
	for i := range l {
		l[i] = someToken(r)
	}
	return l
}

// someText returns a text of pieces, which is often one without an error.
func someText(r *rand.Rand, wrong bool) string {
	right := []string{" ", " ", "\n", "a", "Bc_9", "end", "end ", " 12 ", " 0007 ", "--", " -- x\n", "--!~\n", "- ", "=", ">", "<", ".", ":", "/", "'", "(", "|", ";", "+*", ")", ","}
	bad := []string{"_", "\t", "$", "\x7f", "\x80", "\u00e9", "\u2003", "9a", "99999999999", "2147483648", "\r", "\x00", "#", "\"", strings.Repeat("y", 33)}
	var b strings.Builder
	for range r.Intn(30) {
		if wrong && r.Intn(40) == 0 {
			b.WriteString(bad[r.Intn(len(bad))])
		} else {
			b.WriteString(right[r.Intn(len(right))])
		}
	}
	return b.String()
}
