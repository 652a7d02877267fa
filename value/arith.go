package value

import (
	"cmp"

	"tuckmill/api"
)

// none is the scale of what cannot be reckoned.
const none = -1

// operation is what an operator stands for.
type operation struct {
	scale  func(a, b int) int // of what comes out of numbers of these scales
	even   bool               // whether both numbers are brought to that scale ahead
	reckon func(a, b int64) (int64, api.Errno)
}

// find answers what op stands for, if it is an operator. (The map is made anew on each call: one as small as this stays on the stack.)
func find(op byte) (operation, bool) {
	greater := func(a, b int) int { return max(a, b) }
	both := func(a, b int) int { return a + b }
	l := map[byte]operation{
		'+': {greater, true, func(a, b int64) (int64, api.Errno) { return widen(a).plus(widen(b)).narrow() }},
		'-': {greater, true, func(a, b int64) (int64, api.Errno) { return widen(a).minus(widen(b)).narrow() }},
		'*': {both, false, func(a, b int64) (int64, api.Errno) { return product(a, b).narrow() }},
		'/': {first, false, quotient},
	}
	o, ok := l[op]
	return o, ok
}

// first answers a, if b is 0.
func first(a, b int) int {
	if b != 0 {
		return none
	}
	return a
}

// quotient answers a by b, towards 0.
func quotient(a, b int64) (int64, api.Errno) {
	switch b {
	case 0:
		return 0, api.ErrArith
	case -1: // by which the least number has no quotient in 64 bits
		return widen(0).minus(widen(a)).narrow()
	}
	return a / b, api.OK
}

// typed answers what op stands for, and the type of what comes out of it, if there is one.
func typed(op byte, a, b api.Type) (operation, api.Type, bool) {
	o, ok := find(op)
	if !ok || !number(a) || !number(b) {
		return operation{}, api.Type{}, false
	}
	t := api.Type{Kind: api.Int}
	if scale := o.scale(a.Scale, b.Scale); scale != 0 {
		t = api.Type{Kind: api.Dec, Scale: scale}
	}
	if !TypeRight(t) {
		return operation{}, api.Type{}, false
	}
	return o, t, true
}

// ArithType answers the type of what op makes of two numbers of the types a and b, if there is one.
func ArithType(op byte, a, b api.Type) (api.Type, bool) {
	_, t, ok := typed(op, a, b)
	return t, ok
}

// Arith answers what op makes of a and b.
func Arith(op byte, a, b api.Value, ta, tb api.Type) (api.Value, api.Errno) {
	o, t, ok := typed(op, ta, tb)
	switch {
	case !ok:
		return api.Value{}, api.ErrType
	case !Fits(ta, true, a) || !Fits(tb, true, b):
		return api.Value{}, api.ErrArg
	case a.Null || b.Null:
		return truths[unknown], api.OK
	}
	n, m, e := a.N, b.N, api.OK
	if o.even {
		n, m, e = evened(n, m, ta.Scale, tb.Scale, t.Scale)
	}
	if e == api.OK {
		n, e = o.reckon(n, m)
	}
	if e != api.OK {
		return api.Value{}, e
	}
	return api.Value{N: n}, api.OK
}

// evened answers a and b, which have the scales sa and sb, with the scale to.
func evened(a, b int64, sa, sb, to int) (n, m int64, e api.Errno) {
	n, ea := Scale(a, sa, to)
	m, eb := Scale(b, sb, to)
	return n, m, cmp.Or(ea, eb)
}
