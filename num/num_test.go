package num_test

import (
	"math"
	"math/big"
	"strconv"
	"strings"
	"sync"
	"testing"

	"tuckmill/api"
	"tuckmill/num"
)

// answer is what either call answers.
type answer struct {
	n uint64
	e api.Errno
}

func one(op int, a uint64) answer {
	n, e := num.One(op, a)
	return answer{n, e}
}

func two(op int, a, b uint64) answer {
	n, e := num.Two(op, a, b)
	return answer{n, e}
}

func ok(n uint64) answer { return answer{n, api.OK} }

var (
	trap = answer{0, api.ErrTrap}
	kind = answer{0, api.ErrKind}
)

const (
	top32 = 1 << 31        // the least number of 32 bits
	top64 = 1 << 63        // and of 64
	all32 = math.MaxUint32 // -1
	all64 = math.MaxUint64
)

// less is a number of 64 bits below 0.
func less(n int64) uint64 { return uint64(n) }

// less32 is a number of 32 bits below 0.
func less32(n int32) uint64 { return uint64(uint32(n)) }

// ones is what P2.1 says of each code: how many bits it takes, and, of their digits (0 and 1, the highest first), what it answers.
func ones() map[int]oneCase {
	eqz := func(s string) uint64 { return uint64(1 - min(1, strings.Count(s, "1"))) }
	clz := func(s string) uint64 { return uint64(len(s) - len(strings.TrimLeft(s, "0"))) }
	ctz := func(s string) uint64 { return uint64(len(s) - len(strings.TrimRight(s, "0"))) }
	popcnt := func(s string) uint64 { return uint64(strings.Count(s, "1")) }
	return map[int]oneCase{
		0x45: {32, eqz}, 0x67: {32, clz}, 0x68: {32, ctz}, 0x69: {32, popcnt},
		0x50: {64, eqz}, 0x79: {64, clz}, 0x7a: {64, ctz}, 0x7b: {64, popcnt},
		0xa7: {64, func(s string) uint64 { return number(s[32:]) }},
		0xac: {32, func(s string) uint64 { return number(strings.Repeat(s[:1], 32) + s) }},
		0xad: {32, number},
	}
}

type oneCase struct {
	bits int
	does func(digits string) uint64
}

// number reads digits, 0 and 1.
func number(s string) uint64 {
	n, err := strconv.ParseUint(s, 2, 64)
	if err != nil {
		panic(err)
	}
	return n
}

// digits are a number's lowest bits, so many of them.
func digits(n uint64, bits int) string {
	s := strconv.FormatUint(n, 2)
	return (strings.Repeat("0", 64-len(s)) + s)[64-bits:]
}

// twoCase is a code of chapter 2 in words: both of its codes, and what comes out, as a number of any size and sign; nil where there is none.
type twoCase struct {
	name         string
	op32, op64   int
	signed, asks bool
	does         func(x, y *big.Int, bits uint) *big.Int
}

// twos is what P2.2 says, in its own order.
func twos() []twoCase {
	ask := func(holds func(c int) bool) func(x, y *big.Int, bits uint) *big.Int {
		return func(x, y *big.Int, bits uint) *big.Int {
			if holds(x.Cmp(y)) {
				return big.NewInt(1)
			}
			return big.NewInt(0)
		}
	}
	below := ask(func(c int) bool { return c < 0 })
	above := ask(func(c int) bool { return c > 0 })
	most := ask(func(c int) bool { return c <= 0 })
	least := ask(func(c int) bool { return c >= 0 })
	return []twoCase{
		{"eq", 0x46, 0x51, false, true, ask(func(c int) bool { return c == 0 })},
		{"ne", 0x47, 0x52, false, true, ask(func(c int) bool { return c != 0 })},
		{"lt_s", 0x48, 0x53, true, true, below},
		{"lt_u", 0x49, 0x54, false, true, below},
		{"gt_s", 0x4a, 0x55, true, true, above},
		{"gt_u", 0x4b, 0x56, false, true, above},
		{"le_s", 0x4c, 0x57, true, true, most},
		{"le_u", 0x4d, 0x58, false, true, most},
		{"ge_s", 0x4e, 0x59, true, true, least},
		{"ge_u", 0x4f, 0x5a, false, true, least},
		{"add", 0x6a, 0x7c, false, false, func(x, y *big.Int, _ uint) *big.Int { return new(big.Int).Add(x, y) }},
		{"sub", 0x6b, 0x7d, false, false, func(x, y *big.Int, _ uint) *big.Int { return new(big.Int).Sub(x, y) }},
		{"mul", 0x6c, 0x7e, false, false, func(x, y *big.Int, _ uint) *big.Int { return new(big.Int).Mul(x, y) }},
		{"div_s", 0x6d, 0x7f, true, false, quotient},
		{"div_u", 0x6e, 0x80, false, false, quotient},
		{"rem_s", 0x6f, 0x81, true, false, rest},
		{"rem_u", 0x70, 0x82, false, false, rest},
		{"and", 0x71, 0x83, false, false, func(x, y *big.Int, _ uint) *big.Int { return new(big.Int).And(x, y) }},
		{"or", 0x72, 0x84, false, false, func(x, y *big.Int, _ uint) *big.Int { return new(big.Int).Or(x, y) }},
		{"xor", 0x73, 0x85, false, false, func(x, y *big.Int, _ uint) *big.Int { return new(big.Int).Xor(x, y) }},
		{"shl", 0x74, 0x86, false, false, func(x, y *big.Int, bits uint) *big.Int { return new(big.Int).Lsh(x, by(y, bits)) }},
		{"shr_s", 0x75, 0x87, true, false, func(x, y *big.Int, bits uint) *big.Int { return new(big.Int).Rsh(x, by(y, bits)) }},
		{"shr_u", 0x76, 0x88, false, false, func(x, y *big.Int, bits uint) *big.Int { return new(big.Int).Rsh(x, by(y, bits)) }},
		{"rotl", 0x77, 0x89, false, false, func(x, y *big.Int, bits uint) *big.Int { return turn(x, by(y, bits), bits) }},
		{"rotr", 0x78, 0x8a, false, false, func(x, y *big.Int, bits uint) *big.Int { return turn(x, bits-by(y, bits), bits) }},
	}
}

func quotient(x, y *big.Int, bits uint) *big.Int {
	if y.Sign() == 0 {
		return nil
	}
	q := new(big.Int).Quo(x, y)
	if x.Sign() < 0 && q.Cmp(power(bits-1)) >= 0 {
		return nil
	}
	return q
}

func rest(x, y *big.Int, bits uint) *big.Int {
	if y.Sign() == 0 {
		return nil
	}
	return new(big.Int).Rem(x, y)
}

// by is y modulo the bits, never below 0.
func by(y *big.Int, bits uint) uint {
	return uint(new(big.Int).Mod(y, big.NewInt(int64(bits))).Uint64())
}

// turn puts the bits beside themselves, and takes a window of them.
func turn(x *big.Int, n, bits uint) *big.Int {
	twice := new(big.Int).Add(x, new(big.Int).Lsh(x, bits))
	return twice.Rsh(twice, bits-n)
}

func power(n uint) *big.Int { return new(big.Int).Lsh(big.NewInt(1), n) }

// whole is n's lowest bits as a number, with its sign, or without.
func whole(n uint64, bits uint, signed bool) *big.Int {
	v := new(big.Int).Mod(new(big.Int).SetUint64(n), power(bits))
	if signed && v.Cmp(power(bits-1)) >= 0 {
		v.Sub(v, power(bits))
	}
	return v
}

// model is what a code of so many bits answers.
func (c twoCase) model(bits uint, a, b uint64) answer {
	n := c.does(whole(a, bits, c.signed), whole(b, bits, c.signed), bits)
	if n == nil {
		return trap
	}
	return ok(new(big.Int).Mod(n, power(bits)).Uint64())
}

func (c twoCase) check(t *testing.T, a, b uint64) {
	t.Helper()
	if got, want := two(c.op32, a, b), c.model(32, a, b); got != want {
		t.Errorf("i32.%s of %x and %x: %+v, not %+v", c.name, a, b, got, want)
	}
	if got, want := two(c.op64, a, b), c.model(64, a, b); got != want {
		t.Errorf("i64.%s of %x and %x: %+v, not %+v", c.name, a, b, got, want)
	}
}

// edges are numbers about 0, and about the least and the greatest of 32 and of 64 bits; those of 32 bits with halves above them that are not 0, too.
func edges() []uint64 {
	l := []uint64{31, 32, 33, 63, 64, 65, 95, 96, 100, 127, 128, 0xdeadbeef, 0x0123456789abcdef, 0xaaaaaaaa55555555}
	for _, n := range []uint64{0, 1 << 31, 1 << 32, 1<<32 + 1<<31, 1 << 63, 1<<63 + 1<<31, all64 - all32, all64 - all32 + 1<<31} {
		for d := range uint64(5) {
			l = append(l, n+d-2)
		}
	}
	return l
}

// others is a long row of numbers of all lengths.
func others(count int) []uint64 {
	var l []uint64
	n := uint64(1)
	for i := range count {
		n = n*6364136223846793005 + 1442695040888963407
		v := (n ^ n>>29) >> (i % 64)
		if i%3 == 0 {
			v = -v
		}
		l = append(l, v)
	}
	return l
}

func TestExample(t *testing.T) {
	if got := two(0x6a, 1<<32-1, 1); got != ok(0) {
		t.Error(got)
	}
}

func TestOneKnown(t *testing.T) {
	for _, c := range []struct {
		op   int
		a    uint64
		want uint64
	}{
		{0x45, 0, 1}, {0x45, 1, 0}, {0x45, top32, 0}, {0x45, all32, 0}, {0x45, 1 << 32, 1}, {0x45, all64, 0},
		{0x50, 0, 1}, {0x50, 1, 0}, {0x50, 1 << 32, 0}, {0x50, top64, 0}, {0x50, all64, 0},
		{0x67, 0, 32}, {0x67, 1, 31}, {0x67, top32, 0}, {0x67, 1 << 30, 1}, {0x67, 1 << 32, 32}, {0x67, all64, 0}, {0x67, 0xff, 24},
		{0x68, 0, 32}, {0x68, 1, 0}, {0x68, top32, 31}, {0x68, 1 << 32, 32}, {0x68, all64, 0}, {0x68, 0x100, 8},
		{0x69, 0, 0}, {0x69, 1, 1}, {0x69, all32, 32}, {0x69, all64, 32}, {0x69, 1 << 40, 0}, {0x69, 0xf0f0, 8},
		{0x79, 0, 64}, {0x79, 1, 63}, {0x79, top64, 0}, {0x79, 1 << 32, 31}, {0x79, all32, 32}, {0x79, all64, 0},
		{0x7a, 0, 64}, {0x7a, 1, 0}, {0x7a, top64, 63}, {0x7a, 1 << 32, 32}, {0x7a, all64, 0},
		{0x7b, 0, 0}, {0x7b, top64, 1}, {0x7b, all32, 32}, {0x7b, all64, 64}, {0x7b, 0xf0f0 << 40, 8},
		{0xa7, 0, 0}, {0xa7, all32, all32}, {0xa7, 1 << 32, 0}, {0xa7, all64, all32}, {0xa7, 0x123456789, 0x23456789}, {0xa7, top64 + 5, 5},
		{0xac, 0, 0}, {0xac, 1<<31 - 1, 1<<31 - 1}, {0xac, top32, less(-1 << 31)}, {0xac, all32, all64}, {0xac, 1<<63 + 7, 7}, {0xac, less32(-7), less(-7)},
		{0xad, 0, 0}, {0xad, 1<<31 - 1, 1<<31 - 1}, {0xad, top32, top32}, {0xad, all32, all32}, {0xad, all64, all32}, {0xad, 1<<63 + 7, 7},
	} {
		if got := one(c.op, c.a); got != ok(c.want) {
			t.Errorf("One(%x, %x): %+v, not %x", c.op, c.a, got, c.want)
		}
	}
}

func TestOneModel(t *testing.T) {
	l := append(edges(), others(2000)...)
	for i := range 64 {
		l = append(l, 1<<i, 1<<i-1, all64<<i, all64-1<<i)
	}
	for op, c := range ones() {
		for _, a := range l {
			if got, want := one(op, a), ok(c.does(digits(a, c.bits))); got != want {
				t.Errorf("One(%x, %x): %+v, not %+v", op, a, got, want)
			}
		}
	}
}

// TestAskKnown: each question of P2.2, of numbers whose order with a sign is not that without.
func TestAskKnown(t *testing.T) {
	const low, high = 7, all32 - 7 // high is below 0, if it has a sign
	for _, c := range []struct {
		k                      int
		equal, rising, falling uint64
	}{
		{0, 1, 0, 0}, {1, 0, 1, 1},
		{2, 0, 0, 1}, {3, 0, 1, 0}, {4, 0, 1, 0}, {5, 0, 0, 1},
		{6, 1, 0, 1}, {7, 1, 1, 0}, {8, 1, 1, 0}, {9, 1, 0, 1},
	} {
		for _, n := range []struct {
			op        int
			low, high uint64
		}{{0x46 + c.k, low, high}, {0x46 + c.k, 5<<32 + low, 3<<32 + high}, {0x51 + c.k, low, all64 - 7}, {0x51 + c.k, 1<<63 - 1, top64}} {
			if got := two(n.op, n.low, n.low); got != ok(c.equal) {
				t.Errorf("Two(%x, %x, the same): %+v, not %d", n.op, n.low, got, c.equal)
			}
			if got := two(n.op, n.high, n.high); got != ok(c.equal) {
				t.Errorf("Two(%x, %x, the same): %+v, not %d", n.op, n.high, got, c.equal)
			}
			if got := two(n.op, n.low, n.high); got != ok(c.rising) {
				t.Errorf("Two(%x, %x, %x): %+v, not %d", n.op, n.low, n.high, got, c.rising)
			}
			if got := two(n.op, n.high, n.low); got != ok(c.falling) {
				t.Errorf("Two(%x, %x, %x): %+v, not %d", n.op, n.high, n.low, got, c.falling)
			}
		}
	}
}

func TestTwoKnown32(t *testing.T) {
	for _, c := range []struct {
		op   int
		a, b uint64
		want uint64
	}{
		{0x46, 1 << 32, 0, 1}, {0x47, 1 << 32, 0, 0}, {0x49, 1, 1 << 32, 0}, {0x4f, 1, 1 << 32, 1},
		{0x6a, all32, all32, all32 - 1}, {0x6a, 1<<31 - 1, 1, top32}, {0x6a, all64, 0, all32},
		{0x6b, 0, 1, all32}, {0x6b, top32, 1, 1<<31 - 1}, {0x6b, 1 << 32, 0, 0},
		{0x6c, 1 << 16, 1 << 16, 0}, {0x6c, all32, all32, 1}, {0x6c, 0xffff, 0xffff, 0xfffe0001}, {0x6c, less32(-3), 5, less32(-15)},
		{0x6d, 7, 2, 3}, {0x6d, less32(-7), 2, less32(-3)}, {0x6d, 7, less32(-2), less32(-3)}, {0x6d, less32(-7), less32(-2), 3},
		{0x6d, top32, 1, top32}, {0x6d, top32, 2, less32(-1 << 30)}, {0x6d, 1<<31 - 1, all32, less32(-(1<<31 - 1))}, {0x6d, all32, top32, 0},
		{0x6e, less32(-7), 2, 0x7ffffffc}, {0x6e, top32, all32, 0}, {0x6e, all32, 1, all32}, {0x6e, 1<<32 + 9, 1<<40 + 3, 3},
		{0x6f, 7, 2, 1}, {0x6f, less32(-7), 2, all32}, {0x6f, 7, less32(-2), 1}, {0x6f, less32(-7), less32(-2), all32}, {0x6f, top32, all32, 0}, {0x6f, 3<<32 + top32, all64, 0},
		{0x70, less32(-7), 2, 1}, {0x70, top32, all32, top32}, {0x70, all32, 10, 5},
		{0x71, 0xff00ff00ff, 0x0ff00ff00f, 0x000f000f}, {0x72, 0xff000000f0, 0x0000000f0f, 0x00000fff}, {0x73, all64, 0xff, 0xffffff00},
		{0x74, 1, 31, top32}, {0x74, 1, 32, 1}, {0x74, 1, 33, 2}, {0x74, 3, 31, top32}, {0x74, 1, all32, top32}, {0x74, 1, 1<<32 + 4, 16}, {0x74, all64, 0, all32},
		{0x75, top32, 31, all32}, {0x75, top32, 32, top32}, {0x75, less32(-5), 1, less32(-3)}, {0x75, 1<<31 - 1, 30, 1}, {0x75, 1 << 32, 1, 0}, {0x75, top32, all32, all32},
		{0x76, top32, 31, 1}, {0x76, top32, 32, top32}, {0x76, all32, 4, 0x0fffffff}, {0x76, 1 << 32, 1, 0}, {0x76, top32, 1<<33 + 3, 1 << 28},
		{0x77, top32, 1, 1}, {0x77, 0x12345678, 8, 0x34567812}, {0x77, 0x12345678, 0, 0x12345678}, {0x77, 0x12345678, 32, 0x12345678}, {0x77, 0x12345678, 40, 0x34567812}, {0x77, 9<<32 + 1, 31, top32}, {0x77, 1, all32, top32},
		{0x78, 1, 1, top32}, {0x78, 0x12345678, 8, 0x78123456}, {0x78, 0x12345678, 0, 0x12345678}, {0x78, 0x12345678, 32, 0x12345678}, {0x78, 0x12345678, 40, 0x78123456}, {0x78, 9<<32 + 2, 33, 1}, {0x78, 1, all32, 2},
	} {
		if got := two(c.op, c.a, c.b); got != ok(c.want) {
			t.Errorf("Two(%x, %x, %x): %+v, not %x", c.op, c.a, c.b, got, c.want)
		}
	}
}

func TestTwoKnown64(t *testing.T) {
	const n = 0x0123456789abcdef
	for _, c := range []struct {
		op   int
		a, b uint64
		want uint64
	}{
		{0x51, 1 << 32, 0, 0}, {0x52, 1 << 32, 0, 1}, {0x54, 1, 1 << 32, 1}, {0x5a, 1, 1 << 32, 0},
		{0x7c, all32, 1, 1 << 32}, {0x7c, all64, 1, 0}, {0x7c, 1<<63 - 1, 1, top64}, {0x7c, all64, all64, all64 - 1},
		{0x7d, 0, 1, all64}, {0x7d, 1 << 32, 1, all32}, {0x7d, top64, 1, 1<<63 - 1},
		{0x7e, 1 << 32, 1 << 32, 0}, {0x7e, all64, all64, 1}, {0x7e, all32, all32, 0xfffffffe00000001}, {0x7e, less(-3), 5, less(-15)},
		{0x7f, 7, 2, 3}, {0x7f, less(-7), 2, less(-3)}, {0x7f, 7, less(-2), less(-3)}, {0x7f, less(-7), less(-2), 3},
		{0x7f, top64, 1, top64}, {0x7f, top64, 2, less(-1 << 62)}, {0x7f, 1<<63 - 1, all64, less(-(1<<63 - 1))}, {0x7f, all64, top64, 0}, {0x7f, top32, all32, 0}, {0x7f, top32, all64, less(-1 << 31)},
		{0x80, less(-7), 2, 0x7ffffffffffffffc}, {0x80, top64, all64, 0}, {0x80, all64, 1, all64},
		{0x81, 7, 2, 1}, {0x81, less(-7), 2, all64}, {0x81, 7, less(-2), 1}, {0x81, less(-7), less(-2), all64}, {0x81, top64, all64, 0},
		{0x82, less(-7), 2, 1}, {0x82, top64, all64, top64}, {0x82, all64, 10, 5},
		{0x83, 0xff00ff00ff, 0x0ff00ff00f, 0x0f000f000f}, {0x84, 0xff000000f0, 0x0000000f0f, 0xff00000fff}, {0x85, all64, 0xff, 0xffffffffffffff00},
		{0x86, 1, 63, top64}, {0x86, 1, 64, 1}, {0x86, 1, 65, 2}, {0x86, 1, 32, 1 << 32}, {0x86, 1, all64, top64}, {0x86, 3, 63, top64},
		{0x87, top64, 63, all64}, {0x87, top64, 64, top64}, {0x87, less(-5), 1, less(-3)}, {0x87, 1<<63 - 1, 62, 1}, {0x87, top64, all64, all64}, {0x87, all32, 16, 0xffff},
		{0x88, top64, 63, 1}, {0x88, top64, 64, top64}, {0x88, all64, 4, 0x0fffffffffffffff}, {0x88, 1 << 32, 1, top32},
		{0x89, top64, 1, 1}, {0x89, n, 8, 0x23456789abcdef01}, {0x89, n, 0, n}, {0x89, n, 64, n}, {0x89, n, 72, 0x23456789abcdef01}, {0x89, n, 32, 0x89abcdef01234567}, {0x89, 1, all64, top64},
		{0x8a, 1, 1, top64}, {0x8a, n, 8, 0xef0123456789abcd}, {0x8a, n, 0, n}, {0x8a, n, 64, n}, {0x8a, n, 72, 0xef0123456789abcd}, {0x8a, n, 32, 0x89abcdef01234567}, {0x8a, 1, all64, 2},
	} {
		if got := two(c.op, c.a, c.b); got != ok(c.want) {
			t.Errorf("Two(%x, %x, %x): %+v, not %x", c.op, c.a, c.b, got, c.want)
		}
	}
}

// TestTrap: just these, and no other code, trap at these numbers.
func TestTrap(t *testing.T) {
	for _, a := range edges() {
		for _, op := range []int{0x6d, 0x6e, 0x6f, 0x70} {
			for _, zero := range []uint64{0, 1 << 32, all64 - all32} { // the lower half alone is asked
				if got := two(op, a, zero); got != trap {
					t.Errorf("Two(%x, %x, %x): %+v", op, a, zero, got)
				}
			}
		}
		for _, op := range []int{0x7f, 0x80, 0x81, 0x82} {
			if got := two(op, a, 0); got != trap {
				t.Errorf("Two(%x, %x, 0): %+v", op, a, got)
			}
			if got := two(op, a, 1<<32); got.e != api.OK {
				t.Errorf("Two(%x, %x, 2^32): %+v", op, a, got)
			}
		}
	}
	for _, c := range [][3]uint64{{0x6d, top32, all32}, {0x6d, 5<<32 + top32, 7<<32 + all32}, {0x6d, all64 - all32 + top32, all64}, {0x7f, top64, all64}} {
		if got := two(int(c[0]), c[1], c[2]); got != trap {
			t.Errorf("Two(%x, %x, %x): %+v", c[0], c[1], c[2], got)
		}
	}
}

func TestTwoModel(t *testing.T) {
	l := edges()
	more := others(1500)
	for _, c := range twos() {
		for _, a := range l {
			for _, b := range l {
				c.check(t, a, b)
			}
		}
		for i, a := range more {
			b := more[len(more)-1-i]
			c.check(t, a, b)
			c.check(t, a, b>>(i%61))
			c.check(t, a, b%200)
			c.check(t, a, a)
		}
	}
}

// TestMoves: by each number of bits, and by those that are modulo 32, or 64, the same.
func TestMoves(t *testing.T) {
	for _, c := range twos()[20:] {
		for _, a := range edges() {
			for b := range uint64(130) {
				c.check(t, a, b)
				c.check(t, a, -b)
				c.check(t, a, b<<32+b)
			}
		}
	}
}

// TestHalves: what takes 32 bits takes no other ones, and answers none but them.
func TestHalves(t *testing.T) {
	l := edges()
	same := func(op int, got, want answer, narrow bool) {
		if got != want || narrow && got.n > all32 {
			t.Errorf("code %x: %+v, not %+v", op, got, want)
		}
	}
	for _, a := range l {
		for op, c := range ones() {
			if c.bits == 32 {
				same(op, one(op, a), one(op, uint64(uint32(a))), op != 0xac)
			}
		}
		for _, b := range l {
			for _, c := range twos() {
				same(c.op32, two(c.op32, a, b), two(c.op32, uint64(uint32(a)), uint64(uint32(b))), true)
			}
		}
	}
}

// TestKind: every other code is refused, whatever the numbers are; and so is one of the other call.
func TestKind(t *testing.T) {
	first, second := map[int]bool{}, map[int]bool{}
	for op := range ones() {
		first[op] = true
	}
	for _, c := range twos() {
		second[c.op32], second[c.op64] = true, true
	}
	if len(first) != 11 || len(second) != 50 {
		t.Fatal(len(first), len(second))
	}
	l := []int{math.MinInt, math.MinInt + 0x6a, math.MaxInt, math.MaxInt - 0x6a}
	for op := range 256 { // what would be a code, if it were cut to fewer bits
		l = append(l, op+1<<8, op+1<<16, op+1<<32, op+1<<40, op-1<<8, op-1<<31, op-1<<32, op+math.MinInt, -op)
	}
	for op := -2000; op < 70000; op++ {
		l = append(l, op)
	}
	for _, op := range l {
		for _, n := range [][2]uint64{{0, 0}, {7, 3}, {all64, all64}, {top64, all64}} {
			if got := one(op, n[0]); (got.e == api.OK) != first[op] || !first[op] && got != kind {
				t.Errorf("One(%x, %x): %+v", op, n[0], got)
			}
			if got := two(op, n[0], n[1]); (got.e == api.ErrKind) == second[op] || !second[op] && got != kind {
				t.Errorf("Two(%x, %x, %x): %+v", op, n[0], n[1], got)
			}
		}
	}
}

// TestWhole: P2.3: a quotient times b, and the rest, is a.
func TestWhole(t *testing.T) {
	l := append(edges(), others(60)...)
	for _, c := range []struct{ div, rem, mul, add, least, mask uint64 }{
		{0x6d, 0x6f, 0x6c, 0x6a, top32, all32}, {0x6e, 0x70, 0x6c, 0x6a, 0, all32},
		{0x7f, 0x81, 0x7e, 0x7c, top64, all64}, {0x80, 0x82, 0x7e, 0x7c, 0, all64},
	} {
		for _, a := range l {
			for _, b := range l {
				q, r := two(int(c.div), a, b), two(int(c.rem), a, b)
				none := b&c.mask == 0
				full := c.least != 0 && a&c.mask == c.least && b&c.mask == c.mask
				if (q == trap) != (none || full) || (r == trap) != none {
					t.Errorf("codes %x, %x of %x and %x: %+v, %+v", c.div, c.rem, a, b, q, r)
				}
				if q.e != api.OK {
					continue
				}
				if got := two(int(c.add), two(int(c.mul), q.n, b).n, r.n); got != ok(a&c.mask) {
					t.Errorf("codes %x, %x of %x and %x: %x, %x", c.div, c.rem, a, b, q.n, r.n)
				}
			}
		}
	}
}

// TestTurned: P2.3: what is turned left and right by the same is as it was.
func TestTurned(t *testing.T) {
	l := append(edges(), others(100)...)
	for _, c := range []struct {
		left, right int
		mask        uint64
	}{{0x77, 0x78, all32}, {0x89, 0x8a, all64}} {
		for _, a := range l {
			for _, b := range l {
				there, back := two(c.left, a, b), two(c.right, a, b)
				if got := two(c.right, there.n, b); got != ok(a&c.mask) || there.e != api.OK {
					t.Errorf("code %x of %x by %x: %+v, and back %+v", c.left, a, b, there, got)
				}
				if got := two(c.left, back.n, b); got != ok(a&c.mask) || back.e != api.OK {
					t.Errorf("code %x of %x by %x: %+v, and back %+v", c.right, a, b, back, got)
				}
			}
		}
	}
}

// TestSame: the calls keep nothing: what was asked ahead of them, or is asked beside them, changes no answer.
func TestSame(t *testing.T) {
	l := []uint64{0, 1, 7, top32, all32, top64, all64}
	var wait sync.WaitGroup
	for range 8 {
		wait.Go(func() {
			for range 20 {
				for _, c := range twos() {
					for _, a := range l {
						c.check(t, a, l[(a+3)%7])
					}
				}
				for op, c := range ones() {
					for _, a := range l {
						if got, want := one(op, a), ok(c.does(digits(a, c.bits))); got != want {
							t.Errorf("One(%x, %x): %+v, not %+v", op, a, got, want)
						}
					}
				}
			}
		})
	}
	wait.Wait()
}
