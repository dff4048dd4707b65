package static_test

import (
	"math"
	"reflect"
	"slices"
	"strings"
	"testing"

	"ceiling/api"
	"ceiling/static"
)

// lists reads lists of choices, with a semicolon between two of them; an empty text is no list.
func lists(t *testing.T, tab api.Table, s string) [][]api.Choice {
	t.Helper()
	var out [][]api.Choice
	for part := range strings.SplitSeq(s, ";") {
		if part != "" {
			out = append(out, mixed(t, tab, part))
		}
	}
	return out
}

// mixed reads choices among which others may stand anywhere.
func mixed(t *testing.T, tab api.Table, s string) []api.Choice {
	t.Helper()
	var out []api.Choice
	for part := range strings.SplitSeq(s, "|") {
		out = append(out, choices(t, tab, part)...)
	}
	return out
}

// P7.2: Range and its errors, the first of which counts.
func TestRange(t *testing.T) {
	tab := world()
	for _, c := range []struct {
		sub    int
		lo, hi string
		want   api.Bounds
		why    api.Errno
	}{
		{-1, "1", "9", api.Bounds{Lo: 1, Hi: 9}, api.OK}, {-1, "9", "1", api.Bounds{Lo: 9, Hi: 1}, api.OK},
		{-1, "-k", "k", api.Bounds{Lo: -1 << 40, Hi: 1 << 40}, api.OK}, {-1, "n", "n", api.Bounds{Lo: 3, Hi: 3}, api.OK},
		{ofDigit, "1", "9", api.Bounds{Lo: 1, Hi: 9}, api.OK}, {ofDigit, "n", "n + 1", api.Bounds{Lo: 3, Hi: 4}, api.OK}, {ofDigit, "0", "9", api.Bounds{}, api.ErrRange},
		{ofDigit, "1", "10", api.Bounds{}, api.ErrRange}, {ofDigit, "0", "10", api.Bounds{}, api.ErrRange}, {ofDigit, "10", "10", api.Bounds{}, api.ErrRange},
		{ofDigit, "10", "9", api.Bounds{Lo: 10, Hi: 9}, api.OK}, {ofDigit, "0", "-1", api.Bounds{Lo: 0, Hi: -1}, api.OK},
		{ofNone, "5", "4", api.Bounds{Lo: 5, Hi: 4}, api.OK}, {ofNone, "5", "5", api.Bounds{}, api.ErrRange}, {ofNone, "4", "5", api.Bounds{}, api.ErrRange},
		{ofNone, "4", "4", api.Bounds{}, api.ErrRange},
		{ofColor, "Red", "Blue", api.Bounds{Lo: 0, Hi: 2}, api.OK}, {ofWarm, "Red", "Blue", api.Bounds{}, api.ErrRange},
		{ofWarm, "Blue", "Red", api.Bounds{Lo: 2, Hi: 0}, api.OK},
		{ofWhole, "0", "0", api.Bounds{Lo: 0, Hi: 0}, api.OK}, {ofWhole, "0", "1", api.Bounds{}, api.ErrRange}, {ofDiscrete, "0", "0", api.Bounds{Lo: 0, Hi: 0}, api.OK},
		{ofVector, "0", "0", api.Bounds{}, api.ErrRange}, {ofVector, "1", "0", api.Bounds{Lo: 1, Hi: 0}, api.OK}, {ofPair, "0", "0", api.Bounds{}, api.ErrRange},
		{ofRef, "0", "0", api.Bounds{}, api.ErrRange}, {ofPrivate, "0", "0", api.Bounds{}, api.ErrRange},
		{-2, "0", "0", api.Bounds{}, api.ErrRange}, {-2, "1", "0", api.Bounds{Lo: 1, Hi: 0}, api.OK}, {16, "0", "0", api.Bounds{}, api.ErrRange},
		{math.MaxInt, "0", "0", api.Bounds{}, api.ErrRange}, {math.MinInt, "1", "0", api.Bounds{Lo: 1, Hi: 0}, api.OK},
		{ofDigit, "i", "9", api.Bounds{}, api.ErrStatic}, {ofDigit, "1", "i", api.Bounds{}, api.ErrStatic}, {ofDigit, "1 / 0", "9", api.Bounds{}, api.ErrValue},
		{ofDigit, "1", "1 / 0", api.Bounds{}, api.ErrValue},
		{ofDigit, "i", "1 / 0", api.Bounds{}, api.ErrStatic}, {ofDigit, "1 / 0", "i", api.Bounds{}, api.ErrValue}, {-1, "i", "9", api.Bounds{}, api.ErrStatic},
		{ofVector, "0", "i", api.Bounds{}, api.ErrStatic}, {ofDigit, "Digit", "9", api.Bounds{}, api.ErrStatic},
	} {
		if b, e := static.Range(tab, c.sub, parse(t, tab, c.lo), parse(t, tab, c.hi)); b != c.want || e != c.why {
			t.Error(c, b, e)
		}
	}
}

func sameChoices(t *testing.T, what any, tab api.Table, sub int, l []api.Choice, want []api.Bounds, open bool, why api.Errno) {
	t.Helper()
	b, others, e := static.Choices(tab, sub, l)
	if !slices.Equal(b, want) || others != open || e != why {
		t.Error(what, b, others, e, "not", want, open, why)
	}
}

// P7.2: Choices of all sorts; the first error counts.
func TestChoices(t *testing.T) {
	tab := world()
	for _, c := range []struct {
		sub  int
		text string
		want []api.Bounds
		open bool
		why  api.Errno
	}{
		{ofDigit, "1", []api.Bounds{{Lo: 1, Hi: 1}}, false, api.OK},
		{ofDigit, "n | 4 .. 6 | 9", []api.Bounds{{Lo: 3, Hi: 3}, {Lo: 4, Hi: 6}, {Lo: 9, Hi: 9}}, false, api.OK}, {ofDigit, "others", nil, true, api.OK},
		{ofDigit, "9 | others | 1 .. 2", []api.Bounds{{Lo: 9, Hi: 9}, {Lo: 1, Hi: 2}}, true, api.OK},
		{ofDigit, "3 | 3 | 2 .. 4", []api.Bounds{{Lo: 3, Hi: 3}, {Lo: 3, Hi: 3}, {Lo: 2, Hi: 4}}, false, api.OK},
		{ofDigit, "Digit", []api.Bounds{{Lo: 1, Hi: 9}}, false, api.OK}, {ofDigit, "P.Digit", []api.Bounds{{Lo: 1, Hi: 9}}, false, api.OK},
		{ofDigit, "Small", []api.Bounds{{Lo: 5, Hi: 9}}, false, api.OK}, {ofDigit, "None", nil, false, api.OK}, {ofDigit, "Sign", nil, false, api.ErrRange},
		{ofDigit, "Integer", nil, false, api.ErrRange},
		{ofColor, "Warm | Blue", []api.Bounds{{Lo: 0, Hi: 1}, {Lo: 2, Hi: 2}}, false, api.OK}, {ofWarm, "Color", nil, false, api.ErrRange},
		{ofColor, "Whole", nil, false, api.ErrStatic}, {ofColor, "Discrete", nil, false, api.ErrStatic}, {ofColor, "Vector", nil, false, api.ErrStatic},
		{ofWhole, "Whole", nil, false, api.ErrStatic},
		{ofDigit, "0", nil, false, api.ErrRange}, {ofDigit, "10", nil, false, api.ErrRange}, {ofDigit, "1 .. 10", nil, false, api.ErrRange},
		{ofDigit, "0 .. 9", nil, false, api.ErrRange}, {ofDigit, "0 .. 10", nil, false, api.ErrRange}, {ofDigit, "10 .. 0", nil, false, api.OK},
		{ofDigit, "9 .. 8", nil, false, api.OK},
		{ofDigit, "i", nil, false, api.ErrStatic}, {ofDigit, "1 / 0", nil, false, api.ErrValue}, {ofDigit, "i .. 1 / 0", nil, false, api.ErrStatic},
		{ofDigit, "1 / 0 .. i", nil, false, api.ErrValue}, {ofDigit, "1 .. i", nil, false, api.ErrStatic}, {ofDigit, "1 .. 1 / 0", nil, false, api.ErrValue},
		{ofDigit, "others | 1 | i", nil, false, api.ErrStatic}, {ofDigit, "1 | 0 | i", nil, false, api.ErrRange}, {ofDigit, "1 | i | 0", nil, false, api.ErrStatic},
		{ofDigit, "1 | 1 / 0 | others", nil, false, api.ErrValue}, {ofDigit, "others | Vector", nil, false, api.ErrStatic},
		{ofVector, "1", nil, false, api.ErrRange}, {ofVector, "2 .. 1 | others | None", nil, true, api.OK}, {ofVector, "Digit", nil, false, api.ErrRange},
		{ofRef, "0", nil, false, api.ErrRange}, {ofPrivate, "0", nil, false, api.ErrRange}, {ofWhole, "0", []api.Bounds{{}}, false, api.OK},
		{ofNone, "5 .. 4", nil, false, api.OK}, {ofNone, "5", nil, false, api.ErrRange}, {ofNone, "4 .. 5", nil, false, api.ErrRange},
		{-1, "1", nil, false, api.ErrRange}, {-1, "2 .. 1", nil, false, api.OK}, {16, "1", nil, false, api.ErrRange}, {16, "others", nil, true, api.OK},
		{math.MaxInt, "1", nil, false, api.ErrRange}, {math.MinInt, "Digit", nil, false, api.ErrRange},
	} {
		sameChoices(t, c, tab, c.sub, mixed(t, tab, c.text), c.want, c.open, c.why)
	}
	sameChoices(t, "nothing", tab, ofDigit, nil, nil, false, api.OK)
	sameChoices(t, "nothing", tab, -1, []api.Choice{}, nil, false, api.OK)
}

// P7.2: kinds of choices that do not exist, and choices with other numbers of expressions.
func TestFormsOfChoices(t *testing.T) {
	tab := world()
	for kind := range api.ChoiceKind(7) {
		for n := range 5 {
			c := api.Choice{Kind: kind, L: []api.Expr{lit(2), lit(3), lit(4), lit(5)}[:n]}
			switch {
			case kind == api.ChOthers:
				sameChoices(t, c, tab, ofDigit, []api.Choice{c}, nil, true, api.OK)
			case kind == api.ChExpr && n == 1:
				sameChoices(t, c, tab, ofDigit, []api.Choice{c}, []api.Bounds{{Lo: 2, Hi: 2}}, false, api.OK)
			case kind == api.ChRange && n == 2:
				sameChoices(t, c, tab, ofDigit, []api.Choice{c}, []api.Bounds{{Lo: 2, Hi: 3}}, false, api.OK)
			default:
				sameChoices(t, c, tab, ofDigit, []api.Choice{c}, nil, false, api.ErrStatic)
				sameChoices(t, c, tab, ofDigit, []api.Choice{{Kind: api.ChOthers}, c}, nil, false, api.ErrStatic)
			}
		}
	}
	// The type of a mark does not matter, and a mark of a subtype that does not exist is not plain.
	mark := choices(t, tab, "Digit")
	mark[0].L[0].T = -1
	sameChoices(t, "a mark", tab, ofDigit, mark, []api.Bounds{{Lo: 1, Hi: 9}}, false, api.OK)
	tab.Ents[mark[0].L[0].Ent].Sub = 16
	sameChoices(t, "a mark", tab, ofDigit, mark, nil, false, api.ErrStatic)
}

// P7.2: Cover, of lists with semicolons between them.
func TestCover(t *testing.T) {
	tab := world()
	for _, c := range []struct {
		sub  int
		text string
		want api.Errno
	}{
		{ofColor, "Red; Warm", api.ErrCover}, {ofColor, "Red; others", api.OK}, {ofColor, "Red; Blue", api.ErrCover},
		{ofColor, "Red; Green; Blue", api.OK}, {ofColor, "Blue; Red; Green", api.OK}, {ofColor, "Blue | Red | Green", api.OK}, {ofColor, "Warm; Blue", api.OK},
		{ofColor, "Blue; Warm", api.OK}, {ofColor, "Color", api.OK}, {ofColor, "Green; Blue", api.ErrCover}, {ofColor, "Red; Green", api.ErrCover},
		{ofColor, "Red; Green; Blue; others", api.OK}, {ofColor, "others", api.OK}, {ofColor, "others; Red", api.ErrCover}, {ofColor, "Red; others; Green", api.ErrCover},
		{ofColor, "others; others", api.ErrCover}, {ofColor, "Red; Green | others", api.ErrCover}, {ofColor, "others | Blue", api.ErrCover},
		{ofColor, "others | others", api.ErrCover},
		{ofColor, "Red; Red; others", api.ErrCover}, {ofColor, "Red | Red; others", api.ErrCover}, {ofColor, "Red .. Green; Green .. Blue", api.ErrCover},
		{ofColor, "Green .. Blue; Red .. Green", api.ErrCover}, {ofColor, "Color; Green", api.ErrCover}, {ofColor, "Red; Color", api.ErrCover},
		{ofColor, "Blue; Color", api.ErrCover},
		{ofColor, "Blue .. Red | others", api.ErrCover}, {ofColor, "Blue .. Red; others", api.OK}, {ofColor, "Blue .. Red | Color", api.OK},
		{ofColor, "None; Color", api.OK}, {ofColor, "None; Blue .. Red", api.ErrCover},
		{ofWarm, "Red; Green", api.OK}, {ofWarm, "Red; Green; Blue", api.ErrRange}, {ofWarm, "Color", api.ErrRange}, {ofWarm, "Green", api.ErrCover},
		{ofWarm, "Red", api.ErrCover}, {ofWarm, "Warm", api.OK},
		{ofDigit, "1 .. 4; 5 .. 9", api.OK}, {ofDigit, "1 .. 3; 5 .. 9", api.ErrCover}, {ofDigit, "1 .. 5; 5 .. 9", api.ErrCover},
		{ofDigit, "2 .. 4; 5 .. 9", api.ErrCover}, {ofDigit, "1 .. 4; 5 .. 8", api.ErrCover}, {ofDigit, "1 .. 4 | 6 .. 9; 5", api.OK},
		{ofDigit, "1 .. 9; 3", api.ErrCover}, {ofDigit, "1 .. 9; others", api.OK}, {ofDigit, "1 .. 9; 4 .. 3", api.OK}, {ofDigit, "7; 3; 5; 1; 9; 2 | 4; 6 | 8", api.OK},
		{ofInteger, "Integer", api.OK}, {ofInteger, "Integer'First .. 0; 1 .. Integer'Last", api.OK}, {ofInteger, "Integer'First .. 0; 2 .. Integer'Last", api.ErrCover},
		{ofInteger, "Digit; others", api.OK}, {ofInteger, "Digit", api.ErrCover}, {ofInteger, "k", api.ErrRange},
		{ofNone, "", api.OK}, {ofNone, "others", api.OK}, {ofNone, "5 .. 4", api.OK}, {ofNone, "5", api.ErrRange}, {ofColor, "", api.ErrCover}, {ofVector, "", api.OK},
		{ofVector, "others", api.OK}, {ofVector, "2 .. 1; others", api.OK}, {ofVector, "others; 2 .. 1", api.ErrCover}, {ofVector, "1", api.ErrRange},
		{ofWhole, "0", api.OK}, {ofWhole, "", api.ErrCover}, {ofPrivate, "", api.OK},
		{-1, "", api.OK}, {-1, "others", api.OK}, {-1, "0", api.ErrRange}, {16, "", api.OK}, {math.MaxInt, "2 .. 1", api.OK}, {math.MinInt, "1", api.ErrRange},
		{ofColor, "others; Red; i", api.ErrStatic}, {ofColor, "Red; Red; 1 / 0", api.ErrValue}, {ofWarm, "others; Red | Blue; i", api.ErrRange},
		{ofWarm, "i; Blue", api.ErrStatic}, {ofWarm, "Blue; i", api.ErrRange}, {ofColor, "others | i; Red", api.ErrStatic}, {ofColor, "1 / 0 | i", api.ErrValue},
		{ofColor, "Vector; others", api.ErrStatic},
	} {
		l := lists(t, tab, c.text)
		if e := static.Cover(tab, c.sub, l); e != c.want {
			t.Error(c, e)
		}
		if !reflect.DeepEqual(l, lists(t, tab, c.text)) {
			t.Error(c, "changed")
		}
	}
	empty := [][]api.Choice{choices(t, tab, "Color"), nil}
	if e := static.Cover(tab, ofColor, empty); e != api.OK {
		t.Error(e)
	}
	if e := static.Cover(tab, ofColor, [][]api.Choice{choices(t, tab, "others"), {}}); e != api.ErrCover {
		t.Error(e)
	}
	if e := static.Cover(tab, ofColor, [][]api.Choice{{}, nil}); e != api.ErrCover {
		t.Error(e)
	}
}

// P7.2: bounds of all sizes, in tables that are not valid.
func TestCoverAtEdges(t *testing.T) {
	tab := world()
	tab.Types[color].Kind, tab.Types[color].Formal = api.TyInt, api.NoOf
	digit := number(t, tab, "Digit")
	for _, c := range []struct {
		sub, mark [2]int64 // the bounds of the subtype, and of a choice
		text      string
		want      api.Errno
	}{
		{[2]int64{math.MinInt64, math.MaxInt64}, [2]int64{math.MinInt64, math.MaxInt64}, "Digit", api.OK},
		{[2]int64{math.MinInt64, math.MaxInt64}, [2]int64{math.MinInt64 + 1, math.MaxInt64}, "Digit", api.ErrCover},
		{[2]int64{math.MinInt64, math.MaxInt64}, [2]int64{math.MinInt64, math.MaxInt64 - 1}, "Digit", api.ErrCover},
		{[2]int64{math.MinInt64, math.MaxInt64}, [2]int64{math.MinInt64, math.MaxInt64}, "Digit; 5", api.ErrCover},
		{[2]int64{math.MinInt64, math.MaxInt64}, [2]int64{1, math.MaxInt64}, "Digit; others", api.OK},
		{[2]int64{1, math.MaxInt64}, [2]int64{5, math.MaxInt64}, "1 .. 4; Digit", api.OK},
		{[2]int64{1, math.MaxInt64}, [2]int64{5, math.MaxInt64}, "Digit; 1 .. 3", api.ErrCover},
		{[2]int64{math.MinInt64, 4}, [2]int64{math.MinInt64, 0}, "1 .. 4; Digit", api.OK},
		{[2]int64{math.MinInt64, 4}, [2]int64{math.MinInt64, 1}, "1 .. 4; Digit", api.ErrCover},
		{[2]int64{math.MaxInt64, math.MinInt64}, [2]int64{math.MaxInt64, math.MinInt64}, "Digit", api.OK},
		{[2]int64{0, math.MaxInt64}, [2]int64{-1, math.MaxInt64}, "Digit", api.ErrRange},
		{[2]int64{math.MinInt64, math.MaxInt64 - 1}, [2]int64{math.MinInt64, math.MaxInt64}, "Digit", api.ErrRange},
	} {
		tab.Subs[ofWarm], tab.Subs[ofDigit] = api.Subt{T: color, Lo: c.sub[0], Hi: c.sub[1]}, api.Subt{T: integer, Lo: c.mark[0], Hi: c.mark[1]}
		tab.Ents[digit].Sub = ofDigit
		if e := static.Cover(tab, ofWarm, lists(t, tab, c.text)); e != c.want {
			t.Error(c, e)
		}
	}
}

// P7.2: results are new memory, and many choices.
func TestManyChoices(t *testing.T) {
	tab := world()
	var many [][]api.Choice
	const n = 20000
	for i := range int64(n) {
		v := i * 7919 % n
		many = append(many, []api.Choice{{Kind: api.ChRange, L: []api.Expr{lit(2 * v), lit(2*v + 1)}}})
	}
	rest := []api.Choice{{Kind: api.ChRange, L: []api.Expr{lit(2 * n), lit(api.MaxBase)}}, {Kind: api.ChRange, L: []api.Expr{lit(api.MinBase), lit(-1)}}}
	if e := static.Cover(tab, ofInteger, many); e != api.ErrCover {
		t.Error(e)
	}
	if e := static.Cover(tab, ofInteger, append(many, rest)); e != api.OK {
		t.Error(e)
	}
	if e := static.Cover(tab, ofInteger, append(many, rest, many[77])); e != api.ErrCover {
		t.Error(e)
	}
	l := choices(t, tab, "1 | 2 .. 3")
	a, _, _ := static.Choices(tab, ofDigit, l)
	b, _, _ := static.Choices(tab, ofDigit, l)
	a[0].Lo = 99
	if b[0].Lo != 1 {
		t.Error("shared")
	}
}
