package value

import (
	"cmp"
	"math/bits"

	"tuckmill/api"
)

// wide is a number of 128 bits, with a sign: each number of 64 bits has room there at each scale, and so has the product of two of them.
type wide struct {
	high int64
	low  uint64
}

// widen answers n; all bits above its own are as its sign is.
func widen(n int64) wide { return wide{n >> 63, uint64(n)} }

// product answers a times b. (What is below 0 counts as 2 to the power of 64 too much at first: so the other one is taken off above.)
func product(a, b int64) wide {
	high, low := bits.Mul64(uint64(a), uint64(b))
	return wide{int64(high) - a>>63&b - b>>63&a, low}
}

func (w wide) plus(o wide) wide {
	low, carry := bits.Add64(w.low, o.low, 0)
	return wide{w.high + o.high + int64(carry), low}
}

func (w wide) minus(o wide) wide {
	low, borrow := bits.Sub64(w.low, o.low, 0)
	return wide{w.high - o.high - int64(borrow), low}
}

// left answers w moved by so many bits, 1 to 63.
func (w wide) left(by int) wide {
	return wide{w.high<<by | int64(w.low>>(64-by)), w.low << by}
}

// scaled answers w times 10 to the power of places: each ten times is eight times and twice.
func (w wide) scaled(places int) wide {
	for range places {
		w = w.left(3).plus(w.left(1))
	}
	return w
}

// narrow answers w in 64 bits, if it has room there.
func (w wide) narrow() (int64, api.Errno) {
	n := int64(w.low)
	if w != widen(n) {
		return 0, api.ErrArith
	}
	return n, api.OK
}

// compare answers -1, 0 or 1, as w is below o, is o, or above.
func (w wide) compare(o wide) int {
	return cmp.Or(cmp.Compare(w.high, o.high), cmp.Compare(w.low, o.low))
}
