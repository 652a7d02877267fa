package leb_test

import (
	"math"
	"math/big"
	"strings"
	"sync"
	"testing"

	"tuckmill/api"
	"tuckmill/leb"
)

// answer is what any of the four readings answers.
type answer struct {
	n    string // the number, in digits
	next int
	e    api.Errno
}

// reading is one of the four, with what the chapter says of it.
type reading struct {
	name   string
	bits   uint
	most   int
	signed bool
	read   func(s string, at int) answer
}

func readings() []reading {
	return []reading{
		{"U32", 32, 5, false, func(s string, at int) answer {
			n, next, e := leb.U32(s, at)
			return answer{new(big.Int).SetUint64(uint64(n)).String(), next, e}
		}},
		{"S32", 32, 5, true, func(s string, at int) answer {
			n, next, e := leb.S32(s, at)
			return answer{big.NewInt(int64(n)).String(), next, e}
		}},
		{"U64", 64, 10, false, func(s string, at int) answer {
			n, next, e := leb.U64(s, at)
			return answer{new(big.Int).SetUint64(n).String(), next, e}
		}},
		{"S64", 64, 10, true, func(s string, at int) answer {
			n, next, e := leb.S64(s, at)
			return answer{big.NewInt(n).String(), next, e}
		}},
	}
}

// power is 2 to the power of n.
func power(n uint) *big.Int { return new(big.Int).Lsh(big.NewInt(1), n) }

// model reads as P1.2 says it, word by word, with numbers of any size.
func (r reading) model(s string, at int) answer {
	if at < 0 || at > len(s) {
		return answer{"0", 0, api.ErrArg}
	}
	n, count := new(big.Int), 0
	for {
		if at+count == len(s) || count == r.most {
			return answer{"0", 0, api.ErrForm}
		}
		b := s[at+count]
		n.Add(n, new(big.Int).Mul(big.NewInt(int64(b%128)), power(uint(7*count))))
		count++
		if b >= 128 {
			continue
		}
		if r.signed && b >= 64 {
			n.Sub(n, power(uint(7*count)))
		}
		break
	}
	low, high := new(big.Int), power(r.bits)
	if r.signed {
		low, high = new(big.Int).Neg(power(r.bits-1)), power(r.bits-1)
	}
	if n.Cmp(low) < 0 || n.Cmp(high) >= 0 {
		return answer{"0", 0, api.ErrForm}
	}
	return answer{n.String(), at + count, api.OK}
}

func (r reading) check(t *testing.T, s string, at int) {
	t.Helper()
	if got, want := r.read(s, at), r.model(s, at); got != want {
		t.Errorf("%s(%x, %d): %+v, not %+v", r.name, s, at, got, want)
	}
}

// modelU is PutU as P1.1 says it.
func modelU(n uint64) string {
	var s []byte
	for left := n; ; {
		low := left % 128
		left /= 128
		if left == 0 {
			return string(append(s, byte(low)))
		}
		s = append(s, byte(low+128))
	}
}

// modelS is PutS: the shortest string of bytes whose number, with its sign, is n.
func modelS(n int64) string {
	v := big.NewInt(n)
	for count := uint(1); ; count++ {
		half := power(7*count - 1)
		if v.Cmp(new(big.Int).Neg(half)) < 0 || v.Cmp(half) >= 0 {
			continue
		}
		left := new(big.Int).Mod(v, power(7*count))
		s := make([]byte, count)
		for i := range s {
			left, s[i] = new(big.Int).Rsh(left, 7), byte(left.Uint64()&127|128)
		}
		s[count-1] -= 128
		return string(s)
	}
}

// numbers are those about each power of 2, with and without a sign, and a long row of others.
func numbers() []uint64 {
	l := []uint64{0, math.MaxUint64, 624485}
	for i := range 64 {
		for d := range uint64(5) {
			l = append(l, 1<<i+d-2, -(1<<i + d - 2))
		}
	}
	for i, n := 0, uint64(1); i < 2000; i++ {
		n = n*6364136223846793005 + 1442695040888963407
		l = append(l, n>>(i%64))
	}
	return l
}

func TestPutUKnown(t *testing.T) {
	for _, c := range []struct {
		n    uint64
		want string
	}{
		{0, "\x00"}, {1, "\x01"}, {63, "\x3f"}, {64, "\x40"}, {127, "\x7f"},
		{128, "\x80\x01"}, {129, "\x81\x01"}, {255, "\xff\x01"}, {256, "\x80\x02"},
		{16383, "\xff\x7f"}, {16384, "\x80\x80\x01"}, {624485, "\xe5\x8e\x26"},
		{math.MaxUint32, "\xff\xff\xff\xff\x0f"},
		{1 << 32, "\x80\x80\x80\x80\x10"},
		{1<<63 - 1, "\xff\xff\xff\xff\xff\xff\xff\xff\x7f"},
		{1 << 63, "\x80\x80\x80\x80\x80\x80\x80\x80\x80\x01"},
		{math.MaxUint64, "\xff\xff\xff\xff\xff\xff\xff\xff\xff\x01"},
	} {
		if got := leb.PutU(c.n); got != c.want {
			t.Errorf("PutU(%d): %x, not %x", c.n, got, c.want)
		}
	}
}

func TestPutSKnown(t *testing.T) {
	for _, c := range []struct {
		n    int64
		want string
	}{
		{0, "\x00"}, {1, "\x01"}, {-1, "\x7f"}, {2, "\x02"}, {-2, "\x7e"},
		{63, "\x3f"}, {64, "\xc0\x00"}, {-64, "\x40"}, {-65, "\xbf\x7f"},
		{127, "\xff\x00"}, {-127, "\x81\x7f"}, {128, "\x80\x01"}, {-128, "\x80\x7f"}, {-129, "\xff\x7e"},
		{8191, "\xff\x3f"}, {8192, "\x80\xc0\x00"}, {-8192, "\x80\x40"}, {-8193, "\xff\xbf\x7f"},
		{-123456, "\xc0\xbb\x78"}, {624485, "\xe5\x8e\x26"},
		{math.MaxInt32, "\xff\xff\xff\xff\x07"}, {math.MinInt32, "\x80\x80\x80\x80\x78"},
		{1<<62 - 1, "\xff\xff\xff\xff\xff\xff\xff\xff\x3f"},
		{1 << 62, "\x80\x80\x80\x80\x80\x80\x80\x80\xc0\x00"},
		{-1 << 62, "\x80\x80\x80\x80\x80\x80\x80\x80\x40"},
		{math.MaxInt64, "\xff\xff\xff\xff\xff\xff\xff\xff\xff\x00"},
		{math.MinInt64, "\x80\x80\x80\x80\x80\x80\x80\x80\x80\x7f"},
	} {
		if got := leb.PutS(c.n); got != c.want {
			t.Errorf("PutS(%d): %x, not %x", c.n, got, c.want)
		}
	}
}

func TestPutModel(t *testing.T) {
	for _, n := range numbers() {
		if got, want := leb.PutU(n), modelU(n); got != want {
			t.Errorf("PutU(%d): %x, not %x", n, got, want)
		}
		if got, want := leb.PutS(int64(n)), modelS(int64(n)); got != want {
			t.Errorf("PutS(%d): %x, not %x", int64(n), got, want)
		}
	}
}

// TestReadKnown: answers worked out by hand, those at the edges of 32 and 64 bits first of all.
func TestReadKnown(t *testing.T) {
	no := answer{"0", 0, api.ErrForm}
	ok := func(n string, next int) answer { return answer{n, next, api.OK} }
	for _, c := range []struct {
		s                  string
		u32, s32, u64, s64 answer
	}{
		{"\x00", ok("0", 1), ok("0", 1), ok("0", 1), ok("0", 1)},
		{"\x3f", ok("63", 1), ok("63", 1), ok("63", 1), ok("63", 1)},
		{"\x40", ok("64", 1), ok("-64", 1), ok("64", 1), ok("-64", 1)},
		{"\x7f", ok("127", 1), ok("-1", 1), ok("127", 1), ok("-1", 1)},
		{"\xe5\x8e\x26", ok("624485", 3), ok("624485", 3), ok("624485", 3), ok("624485", 3)},
		{"\xc0\xbb\x78", ok("1973696", 3), ok("-123456", 3), ok("1973696", 3), ok("-123456", 3)},
		{"\x01\xff", ok("1", 1), ok("1", 1), ok("1", 1), ok("1", 1)},
		{"", no, no, no, no},
		{"\x80", no, no, no, no},
		{"\xff\xff\xff", no, no, no, no},
		{"\xff\xff\xff\xff\x07", ok("2147483647", 5), ok("2147483647", 5), ok("2147483647", 5), ok("2147483647", 5)},
		{"\x80\x80\x80\x80\x08", ok("2147483648", 5), no, ok("2147483648", 5), ok("2147483648", 5)},
		{"\xff\xff\xff\xff\x0f", ok("4294967295", 5), no, ok("4294967295", 5), ok("4294967295", 5)},
		{"\x80\x80\x80\x80\x10", no, no, ok("4294967296", 5), ok("4294967296", 5)},
		{"\x80\x80\x80\x80\x78", no, ok("-2147483648", 5), ok("32212254720", 5), ok("-2147483648", 5)},
		{"\xff\xff\xff\xff\x77", no, no, ok("32212254719", 5), ok("-2147483649", 5)},
		{"\x80\x80\x80\x80\x80\x00", no, no, ok("0", 6), ok("0", 6)},
		{"\xff\xff\xff\xff\xff\xff\xff\xff\xff\x00", no, no, ok("9223372036854775807", 10), ok("9223372036854775807", 10)},
		{"\x80\x80\x80\x80\x80\x80\x80\x80\x80\x01", no, no, ok("9223372036854775808", 10), no},
		{"\xff\xff\xff\xff\xff\xff\xff\xff\xff\x01", no, no, ok("18446744073709551615", 10), no},
		{"\x80\x80\x80\x80\x80\x80\x80\x80\x80\x02", no, no, no, no},
		{"\x80\x80\x80\x80\x80\x80\x80\x80\x80\x7f", no, no, no, ok("-9223372036854775808", 10)},
		{"\xff\xff\xff\xff\xff\xff\xff\xff\xff\x7e", no, no, no, no},
		{"\x80\x80\x80\x80\x80\x80\x80\x80\x80\x80\x00", no, no, no, no},
	} {
		for i, want := range []answer{c.u32, c.s32, c.u64, c.s64} {
			if r := readings()[i]; r.read(c.s, 0) != want {
				t.Errorf("%s(%x, 0): %+v, not %+v", r.name, c.s, r.read(c.s, 0), want)
			}
		}
	}
}

// TestReadModel: each byte at each place, behind bytes that go on, ahead of others or of none.
func TestReadModel(t *testing.T) {
	for _, r := range readings() {
		for count := range 13 {
			for _, fill := range []string{"\x80", "\xff", "\xd5", "\xaa"} {
				for b := range 256 {
					for _, tail := range []string{"", "\x00", "\x7f", "\x81\x01"} {
						s := strings.Repeat(fill, count) + string([]byte{byte(b)}) + tail
						r.check(t, s, 0)
						r.check(t, "\x7f\x80"+s, 2)
					}
				}
			}
		}
	}
}

// TestReadPairs: each two bytes, at each place of them, the place behind too.
func TestReadPairs(t *testing.T) {
	for _, r := range readings() {
		for i := range 1 << 16 {
			s := string([]byte{byte(i), byte(i >> 8)})
			for at := range 3 {
				r.check(t, s, at)
			}
		}
	}
}

// TestReadPlace: which places are refused, and with which error, whatever stands in the text.
func TestReadPlace(t *testing.T) {
	for _, r := range readings() {
		for _, s := range []string{"", "a", "ab", "\x80", "\x80\x80\x80\x80\x80\x80\x80\x80\x80\x80\x80"} {
			for _, at := range []int{math.MinInt, math.MinInt + 1, -1 << 32, -2, -1, len(s) + 1, len(s) + 2, 1 << 32, 1 << 62, math.MaxInt - 1, math.MaxInt} {
				if got, want := r.read(s, at), (answer{"0", 0, api.ErrArg}); got != want {
					t.Errorf("%s(%x, %d): %+v, not %+v", r.name, s, at, got, want)
				}
			}
			if got, want := r.read(s, len(s)), (answer{"0", 0, api.ErrForm}); got != want {
				t.Errorf("%s(%x, %d): %+v, not %+v", r.name, s, len(s), got, want)
			}
		}
	}
}

// TestReadLong: a great text is read from any place of it, and bytes that go on for ever are given up.
func TestReadLong(t *testing.T) {
	long := strings.Repeat("\x80", 1<<20)
	mixed := strings.Repeat("\xff\x00\x80\x80\x01\xc0\xbb\x78", 1<<10)
	for _, r := range readings() {
		for _, at := range []int{0, 1, 1 << 19, 1<<20 - 11, 1<<20 - 10, 1<<20 - 5, 1<<20 - 1, 1 << 20} {
			r.check(t, long, at)
		}
		for at := range len(mixed) + 1 {
			r.check(t, mixed, at)
		}
	}
}

// longer is the same number in so many bytes, the last of which were spared.
func longer(s string, count int, below bool) string {
	fill := byte(0)
	if below {
		fill = 127
	}
	l := []byte(s)
	for len(l) < count {
		l[len(l)-1] |= 128
		l = append(l, fill)
	}
	return string(l)
}

// TestRound: what was written is read as it was, at any place, in as many bytes as it may have, and in none more.
func TestRound(t *testing.T) {
	try := func(r reading, s, n string, below bool) {
		for count := len(s); count <= r.most+1; count++ {
			want := answer{n, 3 + count, api.OK}
			if count > r.most {
				want = answer{"0", 0, api.ErrForm}
			}
			if got := r.read("\xffa\x80"+longer(s, count, below)+"\x80z", 3); got != want {
				t.Errorf("%s of %s in %d bytes: %+v, not %+v", r.name, n, count, got, want)
			}
		}
	}
	l := readings()
	for _, n := range numbers() {
		u, s, low := leb.PutU(n), leb.PutS(int64(n)), int64(int32(n))
		try(l[2], u, new(big.Int).SetUint64(n).String(), false)
		try(l[3], s, big.NewInt(int64(n)).String(), int64(n) < 0)
		try(l[0], leb.PutU(uint64(uint32(n))), big.NewInt(int64(uint32(n))).String(), false)
		try(l[1], leb.PutS(low), big.NewInt(low).String(), low < 0)
	}
}

// TestRoundNarrow: what has no room in 32 bits is refused there, though it was written well.
func TestRoundNarrow(t *testing.T) {
	for _, n := range numbers() {
		if _, _, e := leb.U32(leb.PutU(n), 0); (e == api.OK) != (n <= math.MaxUint32) {
			t.Errorf("U32 of %d: %d", n, e)
		}
		if _, _, e := leb.S32(leb.PutS(int64(n)), 0); (e == api.OK) != (int64(n) == int64(int32(n))) {
			t.Errorf("S32 of %d: %d", int64(n), e)
		}
	}
}

// TestRow: the place behind a number is where the next one stands.
func TestRow(t *testing.T) {
	var text strings.Builder
	for _, n := range numbers() {
		text.WriteString(leb.PutU(n))
		text.WriteString(leb.PutS(int64(n)))
	}
	s, at := text.String(), 0
	for _, want := range numbers() {
		u, next, e := leb.U64(s, at)
		if u != want || e != api.OK {
			t.Fatal(u, want, at, e)
		}
		i, behind, e := leb.S64(s, next)
		if i != int64(want) || e != api.OK {
			t.Fatal(i, int64(want), next, e)
		}
		at = behind
	}
	if at != len(s) {
		t.Error(at, len(s))
	}
}

// TestSame: the calls keep nothing: what was read ahead of them, or is read beside them, changes no answer.
func TestSame(t *testing.T) {
	s := "\x80\x80\x80\x80\x78" + "\xff\xff\xff\xff\x0f" + "\x80\x80"
	var want []answer
	for _, r := range readings() {
		for at := -1; at <= len(s)+1; at++ {
			want = append(want, r.model(s, at))
		}
	}
	var wait sync.WaitGroup
	for range 8 {
		wait.Go(func() {
			for range 100 {
				i := 0
				for _, r := range readings() {
					for at := -1; at <= len(s)+1; at++ {
						if got := r.read(s, at); got != want[i] {
							t.Errorf("%s(%x, %d): %+v, not %+v", r.name, s, at, got, want[i])
						}
						i++
					}
				}
				if u, n := leb.PutU(624485), leb.PutS(-123456); u != "\xe5\x8e\x26" || n != "\xc0\xbb\x78" {
					t.Errorf("%x %x", u, n)
				}
			}
		})
	}
	wait.Wait()
	if s != "\x80\x80\x80\x80\x78"+"\xff\xff\xff\xff\x0f"+"\x80\x80" {
		t.Errorf("what was handed in is now %x", s)
	}
}
