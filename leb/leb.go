// Package leb is layer 1: see shared/doc/01-leb.md.
package leb

import (
	"tuckmill/api"
)

// How many bytes a number may have at most: as many as its 32, or 64, bits fill, seven to a byte.
const (
	most32 = 5
	most64 = 10
)

const (
	seven = 0x7f // the bits of a byte that are the number's
	sign  = 0x40 // the highest of them
	more  = 0x80 // another byte follows
)

// whole is what can be read: how wide it is, and whether it has a sign, is told by the type itself.
type whole interface {
	uint32 | int32 | uint64 | int64
}

// PutU: see the chapter.
func PutU(n uint64) string {
	var room [most64]byte
	l := room[:0]
	for n >= more {
		l = append(l, byte(n)|more)
		n >>= 7
	}
	return string(append(l, byte(n)))
}

// PutS: see the chapter.
func PutS(n int64) string {
	var room [most64]byte
	l := room[:0]
	for {
		low := byte(n & seven)
		n >>= 7
		if n == 0 && low&sign == 0 || n == -1 && low&sign != 0 {
			return string(append(l, low))
		}
		l = append(l, low|more)
	}
}

// U32: see the chapter.
func U32(s string, at int) (n uint32, next int, e api.Errno) { return read[uint32](s, at, most32) }

// S32: see the chapter.
func S32(s string, at int) (n int32, next int, e api.Errno) { return read[int32](s, at, most32) }

// U64: see the chapter.
func U64(s string, at int) (n uint64, next int, e api.Errno) { return read[uint64](s, at, most64) }

// S64: see the chapter.
func S64(s string, at int) (n int64, next int, e api.Errno) { return read[int64](s, at, most64) }

// read reads a number of at most so many bytes.
func read[T whole](s string, at, most int) (n T, next int, e api.Errno) {
	if at < 0 || at > len(s) {
		return 0, 0, api.ErrArg
	}
	rest := s[at:]
	for k := 0; k < len(rest) && k < most; k++ {
		part, shift := bits[T](rest[k]), 7*k
		high := part << shift
		if high>>shift != part { // bits went out at the top, or into the sign
			return 0, 0, api.ErrForm
		}
		n |= high
		if rest[k] < more {
			return n, at + k + 1, api.OK
		}
	}
	return 0, 0, api.ErrForm
}

// bits answers a byte's seven bits, which are below 0 where it is the last one and its highest bit is the number's sign.
func bits[T whole](b byte) T {
	n := T(b & seven)
	if signed := ^T(0) < 0; signed && b < more && b&sign != 0 {
		n -= more
	}
	return n
}
