package num

import (
	"math"

	"ceiling/api"
)

var (
	none   = api.Ival{Lo: 1, Hi: 0}
	full   = api.Ival{Lo: math.MinInt64, Hi: math.MaxInt64}
	truths = api.Ival{Lo: 0, Hi: 1}
)

// Has reports whether an interval contains an integer.
func Has(a api.Ival, v int64) bool { return a.Lo <= v && v <= a.Hi }

// Lies reports whether all integers of a are in b.
func Lies(a, b api.Ival) bool { return empty(a) || b.Lo <= a.Lo && a.Hi <= b.Hi }

// Join returns the least interval that contains two.
func Join(a, b api.Ival) api.Ival {
	switch {
	case empty(a) && empty(b):
		return none
	case empty(a):
		return b
	case empty(b):
		return a
	}
	return api.Ival{Lo: least(a.Lo, b.Lo), Hi: greatest(a.Hi, b.Hi)}
}

// Meet returns the integers that are in both.
func Meet(a, b api.Ival) api.Ival {
	both := api.Ival{Lo: greatest(a.Lo, b.Lo), Hi: least(a.Hi, b.Hi)}
	if empty(both) {
		return none
	}
	return both
}

// Widen returns an interval that contains both a and b; where b is not inside a, it goes as far as most, or without end.
func Widen(a, b, most api.Ival) api.Ival {
	if empty(a) || empty(b) {
		return Join(a, b)
	}
	out := full
	switch {
	case a.Lo <= b.Lo:
		out.Lo = a.Lo
	case most.Lo <= b.Lo:
		out.Lo = most.Lo
	}
	switch {
	case a.Hi >= b.Hi:
		out.Hi = a.Hi
	case most.Hi >= b.Hi:
		out.Hi = most.Hi
	}
	return out
}

func empty(a api.Ival) bool { return a.Lo > a.Hi }

func least(first int64, others ...int64) int64 {
	for _, v := range others {
		if v < first {
			first = v
		}
	}
	return first
}

func greatest(first int64, others ...int64) int64 {
	for _, v := range others {
		if v > first {
			first = v
		}
	}
	return first
}
