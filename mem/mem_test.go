package mem_test

import (
	"encoding/binary"
	"math"
	"math/rand"
	"strings"
	"sync"
	"testing"
	"unsafe"

	"tuckmill/api"
	"tuckmill/mem"
)

const page = 65536

// fresh is a memory of so many pages, that may have as many as there can be.
func fresh(t testing.TB, least int) *mem.Memory {
	t.Helper()
	return bounded(t, least, -1)
}

func bounded(t testing.TB, least, most int) *mem.Memory {
	t.Helper()
	m, e := mem.New(least, most)
	if e != api.OK || m == nil {
		t.Fatalf("New(%d, %d): %v, %d", least, most, m != nil, e)
	}
	return m
}

// pattern is bytes, none of them 0, no two runs of which soon look alike.
func pattern(size int) string {
	b := make([]byte, size)
	for k := range b {
		b[k] = byte(1 + (k+k/255*7+k/page*31)%255)
	}
	return string(b)
}

// filled is a memory of so many pages, all of them written, and what stands there.
func filled(t testing.TB, least int) (*mem.Memory, string) {
	t.Helper()
	m, s := fresh(t, least), pattern(least*page)
	if !m.Write(0, s) {
		t.Fatal("Write of all that has room")
	}
	holds(t, m, s)
	return m, s
}

// whole is all that stands in a memory.
func whole(t testing.TB, m *mem.Memory) string {
	t.Helper()
	s, ok := m.Bytes(0, m.Pages()*page)
	if !ok || len(s) != m.Pages()*page {
		t.Fatalf("Bytes of all that stands there: %d, %v", len(s), ok)
	}
	return s
}

// holds fails, if there stands anything else, and tells where first.
func holds(t testing.TB, m *mem.Memory, want string) {
	t.Helper()
	got := whole(t, m)
	if len(got) != len(want) {
		t.Fatalf("%d bytes, not %d", len(got), len(want))
	}
	for k := range got {
		if got[k] != want[k] {
			t.Fatalf("at %d: %x, not %x", k, got[k], want[k])
		}
	}
}

// over is s with another text from a place on.
func over(s string, at int, by string) string { return s[:at] + by + s[at+len(by):] }

// TestExample: the chapter's.
func TestExample(t *testing.T) {
	m := bounded(t, 1, 2)
	if a, b := m.Grow(1), m.Grow(1); a != 1 || b != -1 {
		t.Error(a, b)
	}
}

// TestNewKnown: P8.1, case by case.
func TestNewKnown(t *testing.T) {
	for _, c := range []struct {
		least, most int
		want        api.Errno
	}{
		{0, -1, api.OK}, {0, 0, api.OK}, {0, 1, api.OK}, {1, 1, api.OK}, {1, 2, api.OK}, {3, -1, api.OK},
		{256, -1, api.OK}, {256, 256, api.OK}, {255, 256, api.OK}, {0, 256, api.OK},
		{0, 257, api.OK}, {256, 257, api.OK}, {2, 65536, api.OK}, {2, math.MaxInt, api.OK},
		{-1, -1, api.ErrArg}, {-1, 0, api.ErrArg}, {-1, 5, api.ErrArg}, {-1, -2, api.ErrArg}, {math.MinInt, -1, api.ErrArg}, {math.MinInt, math.MaxInt, api.ErrArg}, {math.MinInt, math.MinInt, api.ErrArg},
		{0, -2, api.ErrArg}, {1, -3, api.ErrArg}, {0, math.MinInt, api.ErrArg}, {math.MaxInt, math.MinInt, api.ErrArg},
		{1, 0, api.ErrArg}, {2, 1, api.ErrArg}, {256, 255, api.ErrArg}, {256, 0, api.ErrArg},
		{257, 256, api.ErrArg}, {257, 0, api.ErrArg}, {300, 299, api.ErrArg}, {257, -2, api.ErrArg}, {math.MaxInt, math.MaxInt - 1, api.ErrArg},
		{257, -1, api.ErrRoom}, {257, 257, api.ErrRoom}, {300, 400, api.ErrRoom}, {65536, -1, api.ErrRoom}, {1 << 32, -1, api.ErrRoom}, {1<<32 + 1, 1<<32 + 1, api.ErrRoom}, {math.MaxInt, -1, api.ErrRoom}, {math.MaxInt, math.MaxInt, api.ErrRoom},
	} {
		m, e := mem.New(c.least, c.most)
		if e != c.want || (m != nil) != (e == api.OK) {
			t.Errorf("New(%d, %d): %v, %d, not %d", c.least, c.most, m != nil, e, c.want)
		} else if e == api.OK && m.Pages() != c.least {
			t.Errorf("New(%d, %d): %d pages", c.least, c.most, m.Pages())
		}
	}
}

// TestNewZero: P8.1: as many pages as are asked for, of bytes 0.
func TestNewZero(t *testing.T) {
	for _, least := range []int{0, 1, 2, 3, 255, 256} {
		m := fresh(t, least)
		if m.Pages() != least {
			t.Errorf("%d, not %d", m.Pages(), least)
		}
		holds(t, m, strings.Repeat("\x00", least*page))
	}
}

// TestGrowKnown: P8.1, case by case: what is asked for, one behind the other, and what is answered.
func TestGrowKnown(t *testing.T) {
	type asks []struct {
		n    uint32
		want int32
	}
	for _, c := range []struct {
		least, most int
		asks        asks
	}{
		{0, -1, asks{{0, 0}, {1, 0}, {0, 1}, {2, 1}, {253, 3}, {0, 256}, {1, -1}, {0, 256}}},
		{0, -1, asks{{257, -1}, {256, 0}, {1, -1}}},
		{0, 0, asks{{0, 0}, {1, -1}, {0, 0}, {math.MaxUint32, -1}}},
		{1, 1, asks{{0, 1}, {1, -1}, {math.MaxUint32, -1}, {math.MaxInt32, -1}, {0, 1}}},
		{1, 2, asks{{2, -1}, {1, 1}, {0, 2}, {1, -1}}},
		{2, 5, asks{{4, -1}, {2, 2}, {2, -1}, {1, 4}, {1, -1}, {0, 5}}},
		{7, -1, asks{{250, -1}, {249, 7}, {1, -1}}},
		{7, 256, asks{{250, -1}, {249, 7}, {1, -1}}},
		{7, 255, asks{{249, -1}, {248, 7}, {1, -1}, {0, 255}}},
		{7, 257, asks{{250, -1}, {249, 7}, {1, -1}}},
		{7, 65536, asks{{250, -1}, {249, 7}, {1, -1}}},
		{7, math.MaxInt, asks{{250, -1}, {249, 7}, {1, -1}}},
		{256, -1, asks{{1, -1}, {0, 256}}},
		{256, 1000, asks{{1, -1}, {744, -1}, {0, 256}}},
		// What would wrap, in 32 bits, with and without a sign, or in 16.
		{9, -1, asks{{math.MaxUint32, -1}, {math.MaxUint32 - 8, -1}, {math.MaxUint32 - 9, -1}, {1 << 31, -1}, {math.MaxInt32, -1}, {math.MaxInt32 - 8, -1}, {1 << 16, -1}, {1<<16 - 9, -1}, {1, 9}}},
	} {
		m, pages := bounded(t, c.least, c.most), c.least
		for k, a := range c.asks {
			got := m.Grow(a.n)
			if a.want >= 0 {
				pages = int(a.want) + int(a.n)
			}
			if got != a.want || m.Pages() != pages {
				t.Fatalf("%d to %d, ask %d: Grow(%d): %d, not %d; %d pages, not %d", c.least, c.most, k, a.n, got, a.want, m.Pages(), pages)
			}
		}
	}
}

// TestGrowEvery: P8.1: from as many as there are to each number that there may be, with most about MaxPages, and far from it.
func TestGrowEvery(t *testing.T) {
	for _, most := range []int{-1, 0, 1, 2, 100, 255, 256, 257, 1000} {
		for _, least := range []int{0, 1, 2, 99, 255, 256} {
			if most != -1 && least > most {
				continue
			}
			end := 256
			if most != -1 {
				end = min(end, most)
			}
			for _, sum := range []int{least, least + 1, end - 1, end, end + 1, 255, 256, 257, 300} {
				if sum < least {
					continue
				}
				m, want, pages := bounded(t, least, most), int32(-1), least
				if sum <= end {
					want, pages = int32(least), sum
				}
				if got := m.Grow(uint32(sum - least)); got != want || m.Pages() != pages {
					t.Errorf("%d to %d: Grow(%d): %d, not %d; %d pages, not %d", least, most, sum-least, got, want, m.Pages(), pages)
				}
			}
		}
	}
}

// TestGrowKeeps: P8.1, P8.3: what stood there stays, what is behind it is 0, and where there may be no more nothing is done.
func TestGrowKeeps(t *testing.T) {
	for _, most := range []int{6, -1} {
		m := bounded(t, 2, most)
		want := pattern(2 * page)
		m.Write(0, want)
		for _, n := range []uint32{1, 0, 2, 400, 1} {
			if m.Grow(n) != -1 {
				want += strings.Repeat("\x00", int(n)*page)
			}
			holds(t, m, want)
		}
		if m.Pages() != 6 {
			t.Fatal(m.Pages())
		}
		want = pattern(6 * page)
		if !m.Write(0, want) {
			t.Fatal("no room")
		}
		for _, n := range []uint32{0, 251, math.MaxUint32} {
			m.Grow(n)
			holds(t, m, want)
		}
	}
}

// TestGrowZero: P8.1: new pages are of bytes 0, though others were given up ahead of them.
func TestGrowZero(t *testing.T) {
	for range 20 {
		filled(t, 3)
		m := fresh(t, 0)
		m.Grow(2)
		m.Grow(1)
		holds(t, m, strings.Repeat("\x00", 3*page))
	}
}

// TestGrowPlaces: P8.2: what was behind the end may be asked for when there are more, and not any sooner.
func TestGrowPlaces(t *testing.T) {
	m := bounded(t, 1, 2)
	places := func(want bool) {
		t.Helper()
		_, load := m.Load(page-3, 4)
		_, bytes := m.Bytes(page, 1)
		if load != want || bytes != want || m.Store(page-3, 4, 1) != want || m.Write(page-1, "ab") != want {
			t.Errorf("%d pages: %v, %v", m.Pages(), load, bytes)
		}
	}
	places(false)
	m.Grow(2)
	places(false)
	m.Grow(0)
	places(false)
	m.Grow(1)
	places(true)
}

// TestLoadKnown: P8.2, case by case: the lowest byte stands first.
func TestLoadKnown(t *testing.T) {
	m := fresh(t, 2)
	m.Write(0, "\x01\x02\x03\x04\x05\x06\x07\x88\x99\xff\xff\xff\xff\xff\xff\xff\xff\x00\x80")
	m.Write(page-4, "\xf1\xf2\xf3\xf4\x05\x06\x07\x08")
	m.Write(2*page-8, "\x10\x20\x30\x40\x50\x60\x70\x80")
	for _, c := range []struct {
		at   uint64
		size int
		want uint64
	}{
		{0, 1, 0x01}, {0, 2, 0x0201}, {0, 4, 0x04030201}, {0, 8, 0x8807060504030201},
		{1, 1, 0x02}, {1, 2, 0x0302}, {1, 4, 0x05040302}, {1, 8, 0x9988070605040302},
		{7, 1, 0x88}, {8, 1, 0x99}, {7, 2, 0x9988}, {9, 1, 0xff}, {9, 2, 0xffff}, {9, 4, math.MaxUint32}, {9, 8, math.MaxUint64}, {17, 2, 0x8000}, {18, 1, 0x80}, {18, 8, 0x80}, {11, 8, 0x8000ffffffffffff},
		{30, 8, 0}, {page - 1, 1, 0xf4}, {page, 1, 0x05}, {page - 1, 2, 0x05f4}, {page - 1, 4, 0x070605f4}, {page - 2, 4, 0x0605f4f3}, {page - 3, 4, 0x05f4f3f2}, {page - 4, 4, 0xf4f3f2f1}, {page, 4, 0x08070605}, {page - 4, 8, 0x08070605f4f3f2f1}, {page - 7, 8, 0x05f4f3f2f1000000}, {page - 1, 8, 0x08070605f4},
		{2*page - 8, 8, 0x8070605040302010}, {2*page - 4, 4, 0x80706050}, {2*page - 2, 2, 0x8070}, {2*page - 1, 1, 0x80},
	} {
		if got, ok := m.Load(c.at, c.size); got != c.want || !ok {
			t.Errorf("Load(%d, %d): %x, %v, not %x", c.at, c.size, got, ok, c.want)
		}
	}
}

// TestStoreKnown: P8.2, case by case: the lowest bytes of a number, and nothing beside them.
func TestStoreKnown(t *testing.T) {
	const n = 0xf1e2d3c4b5a69788
	for _, c := range []struct {
		size int
		n    uint64
		want string
	}{
		{1, n, "\x88"}, {2, n, "\x88\x97"}, {4, n, "\x88\x97\xa6\xb5"}, {8, n, "\x88\x97\xa6\xb5\xc4\xd3\xe2\xf1"},
		{1, 0, "\x00"}, {2, 0, "\x00\x00"}, {4, 0, "\x00\x00\x00\x00"}, {8, 0, "\x00\x00\x00\x00\x00\x00\x00\x00"},
		{1, 1 << 8, "\x00"}, {2, 1 << 16, "\x00\x00"}, {4, 1 << 32, "\x00\x00\x00\x00"},
		{1, math.MaxUint64, "\xff"}, {2, math.MaxUint64, "\xff\xff"}, {4, math.MaxUint64, "\xff\xff\xff\xff"}, {8, math.MaxUint64, "\xff\xff\xff\xff\xff\xff\xff\xff"},
		{8, 7, "\x07\x00\x00\x00\x00\x00\x00\x00"}, {4, 1 << 31, "\x00\x00\x00\x80"}, {8, 1 << 63, "\x00\x00\x00\x00\x00\x00\x00\x80"},
	} {
		for _, at := range []int{0, 1, 5, 8, 1000, page - 8, page - 7, page - 4, page - 3, page - 2, page - 1, page, page + 1, 2*page - c.size - 1, 2*page - c.size} {
			m, s := filled(t, 2)
			if !m.Store(uint64(at), c.size, c.n) {
				t.Errorf("Store(%d, %d, %x): false", at, c.size, c.n)
			}
			holds(t, m, over(s, at, c.want))
		}
	}
}

// sizes are numbers of bytes of all sorts.
func sizes() []int {
	l := []int{math.MinInt, math.MinInt + 1, math.MinInt32, math.MaxInt, math.MaxInt - 7, 1<<16 + 1, 1<<32 + 1, 1<<32 + 8, 1<<33 + 4, 1<<62 + 2, 2 * page, 255, 256, 257, 264}
	for n := range 90 {
		l = append(l, n-20)
	}
	return l
}

// TestSizes: P8.2: numbers are of 1, 2, 4 or 8 bytes.
func TestSizes(t *testing.T) {
	m, s := filled(t, 2)
	for _, size := range sizes() {
		want := size == 1 || size == 2 || size == 4 || size == 8
		for _, at := range []uint64{0, 3, page - 1, page} {
			n, ok := m.Load(at, size)
			if ok != want || ok != (n != 0) {
				t.Errorf("Load(%d, %d): %x, %v", at, size, n, ok)
			}
			if ok = m.Store(at, size, n); ok != want {
				t.Errorf("Store(%d, %d): %v", at, size, ok)
			}
			if !want && m.Store(at, size, math.MaxUint64) {
				t.Errorf("Store(%d, %d)", at, size)
			}
		}
	}
	holds(t, m, s)
}

// places are those about the ends of a memory of so many pages, and of all numbers of 32 and 64 bits.
func places(pages int) []uint64 {
	var l []uint64
	for n := range uint64(20) {
		for _, middle := range []uint64{0, page, uint64(pages) * page, 256 * page, 1 << 31, 1 << 32, 1<<32 + uint64(pages)*page, 1 << 62, 1 << 63, 1<<63 + uint64(pages)*page} {
			l = append(l, middle+n-10) // about 0 it wraps: those are the greatest ones
		}
	}
	return l
}

// room tells whether a memory of so many pages has as many bytes from a place on.
func room(pages int, at uint64, size int) bool {
	end := pages * page
	return size >= 0 && at <= uint64(end) && size <= end-int(at)
}

// TestPlaces: P8.2, P2: about each end: what has no room is refused, and nothing of it is done.
func TestPlaces(t *testing.T) {
	for _, pages := range []int{0, 1, 2, 3} {
		m, s := filled(t, pages)
		for _, at := range places(pages) {
			for _, size := range []int{1, 2, 4, 8} {
				want := room(pages, at, size)
				n, ok := m.Load(at, size)
				if ok != want || ok != (n != 0) {
					t.Errorf("%d pages: Load(%d, %d): %x, %v", pages, at, size, n, ok)
				}
				if got := m.Store(at, size, n); got != want {
					t.Errorf("%d pages: Store(%d, %d): %v", pages, at, size, got)
				}
			}
			for _, size := range []int{0, 1, 2, 3, 5, 9, 10, 11, 19, page - 10, page, page + 9, 3 * page} {
				want := room(pages, at, size)
				text, ok := m.Bytes(at, size)
				if ok != want || ok && text != s[at:][:size] || !ok && text != "" {
					t.Errorf("%d pages: Bytes(%d, %d): %d bytes, %v", pages, at, size, len(text), ok)
				}
				by := strings.Repeat("\x00", size)
				if want {
					by = text
				}
				if got := m.Write(at, by); got != want {
					t.Errorf("%d pages: Write(%d) of %d bytes: %v", pages, at, size, got)
				}
			}
		}
		holds(t, m, s)
	}
}

// TestNothing: P8.2: no bytes have room at each place that there is, and at the end; a place behind that is none (P6).
func TestNothing(t *testing.T) {
	for _, c := range []struct {
		pages int
		at    uint64
		want  bool
	}{
		{0, 0, true}, {0, 1, false}, {0, page, false}, {0, math.MaxUint64, false},
		{1, 0, true}, {1, 77, true}, {1, page - 1, true}, {1, page, true}, {1, page + 1, false}, {1, 2 * page, false}, {1, 1 << 32, false}, {1, 1 << 63, false}, {1, math.MaxUint64, false},
		{256, 256 * page, true}, {256, 256*page + 1, false},
	} {
		m := fresh(t, c.pages)
		s, ok := m.Bytes(c.at, 0)
		if s != "" || ok != c.want {
			t.Errorf("%d pages: Bytes(%d, 0): %q, %v", c.pages, c.at, s, ok)
		}
		if got := m.Write(c.at, ""); got != c.want {
			t.Errorf("%d pages: Write(%d) of nothing: %v", c.pages, c.at, got)
		}
	}
}

// TestBytesSize: P8.2: any size from 0 on, and none below it, nor one that has no room.
func TestBytesSize(t *testing.T) {
	m, s := filled(t, 1)
	for _, at := range []uint64{0, 1, page - 50, page - 3, page} {
		for _, size := range sizes() {
			got, ok := m.Bytes(at, size)
			if want := room(1, at, size); ok != want || ok && got != s[at:][:size] || !ok && got != "" {
				t.Errorf("Bytes(%d, %d): %d bytes, %v", at, size, len(got), ok)
			}
		}
	}
}

// TestBytesEvery: P8.2: each place about a page's end, and each size about it.
func TestBytesEvery(t *testing.T) {
	m, s := filled(t, 3)
	for at := page - 20; at < page+20; at++ {
		for size := range 45 {
			for _, size := range []int{size, size + page - 22} {
				if got, ok := m.Bytes(uint64(at), size); got != s[at:at+size] || !ok {
					t.Fatalf("Bytes(%d, %d): %v", at, size, ok)
				}
			}
		}
	}
}

// TestWriteKnown: P8.2, case by case: what is written stands there, and all else stays.
func TestWriteKnown(t *testing.T) {
	every := make([]byte, 256)
	for k := range every {
		every[k] = byte(k)
	}
	for _, s := range []string{"", "\x00", "a", "tuck", "\xff\xfe\x80 \xe2\x82\xac", string(every), strings.Repeat("x", page), strings.Repeat("yz", page/2+1), strings.Repeat("w", 3*page)} {
		for _, at := range []int{0, 1, 100, page - 2, page - 1, page, page + 1, 2*page - 1, 3*page - len(s) - 1, 3*page - len(s)} {
			if at < 0 || !room(3, uint64(at), len(s)) {
				continue
			}
			m, was := filled(t, 3)
			if !m.Write(uint64(at), s) {
				t.Errorf("Write(%d) of %d bytes: false", at, len(s))
			}
			holds(t, m, over(was, at, s))
		}
	}
}

// TestGreat: as many pages as there can be, written and read as one, and the last places of them.
func TestGreat(t *testing.T) {
	m, s := filled(t, 256)
	if m.Write(1, s) || m.Write(0, s+"a") {
		t.Error("more than has room")
	}
	if got, ok := m.Bytes(0, len(s)+1); ok || got != "" {
		t.Error("more than there is")
	}
	end := uint64(len(s))
	n, ok := m.Load(end-8, 8)
	if want := binary.LittleEndian.Uint64([]byte(s[len(s)-8:])); n != want || !ok {
		t.Errorf("%x, %v", n, ok)
	}
	if n, ok := m.Load(end-7, 8); ok || n != 0 {
		t.Errorf("%x, %v", n, ok)
	}
	if !m.Store(end-1, 1, 0) || m.Store(end, 1, 0) {
		t.Error("the last place")
	}
	holds(t, m, s[:len(s)-1]+"\x00")
}

// TestNone: a memory that has no page, and may have none.
func TestNone(t *testing.T) {
	m := bounded(t, 0, 0)
	for _, size := range []int{1, 2, 4, 8} {
		if n, ok := m.Load(0, size); ok || n != 0 || m.Store(0, size, 1) {
			t.Error(size)
		}
	}
	if s, ok := m.Bytes(0, 1); ok || s != "" || m.Write(0, "a") {
		t.Error("a byte")
	}
	if m.Pages() != 0 || m.Grow(1) != -1 || m.Grow(0) != 0 || m.Pages() != 0 {
		t.Error("pages")
	}
}

// TestRound: P8.3: what was stored is loaded, whichever way it is asked for.
func TestRound(t *testing.T) {
	m := fresh(t, 2)
	numbers := []uint64{0, 1, 0x7f, 0x80, 0xff, 0x100, 0x7fff, 0x8000, 0xffff, 0x10000, 1 << 31, math.MaxUint32, 1 << 32, 1 << 63, math.MaxInt64, math.MaxUint64, 0x0123456789abcdef, 0xfedcba9876543210}
	for k := range 64 {
		numbers = append(numbers, 1<<k, ^(1 << k))
	}
	for _, n := range numbers {
		for _, at := range []uint64{0, 1, page - 9, page - 8, page - 7, page - 6, page - 5, page - 4, page - 3, page - 2, page - 1, page, 2*page - 8} {
			for _, size := range []int{1, 2, 4, 8} {
				want := n
				if size < 8 {
					want = n % (1 << (8 * size))
				}
				stored := m.Store(at, size, n)
				got, ok := m.Load(at, size)
				var b [8]byte
				binary.LittleEndian.PutUint64(b[:], n)
				text, all := m.Bytes(at, size)
				if !stored || !ok || !all || got != want || text != string(b[:size]) {
					t.Errorf("%x, %d bytes at %d: %v, %v, %x, %x", n, size, at, stored, ok, got, text)
				}
			}
		}
	}
}

// model is a memory as one list of bytes.
type model struct {
	b    []byte
	most int
}

func (m *model) load(at, size int) uint64 {
	var b [8]byte
	copy(b[:], m.b[at:at+size])
	return binary.LittleEndian.Uint64(b[:])
}

func (m *model) store(at, size int, n uint64) {
	copy(m.b[at:at+size], binary.LittleEndian.AppendUint64(nil, n))
}

// step does one thing by chance, with a memory and with its model, and fails, if they do not answer the same.
func step(t *testing.T, r *rand.Rand, m *mem.Memory, l *model) {
	t.Helper()
	pages := len(l.b) / page
	at := r.Intn(len(l.b) + 30)
	if r.Intn(2) == 0 { // about a page's end
		at = max(0, r.Intn(pages+1)*page+r.Intn(24)-12)
	}
	size := []int{1, 2, 4, 8}[r.Intn(4)]
	fits := room(pages, uint64(at), size)
	switch r.Intn(16) {
	case 0, 1, 2, 3, 4:
		n, ok := m.Load(uint64(at), size)
		if ok != fits || ok && n != l.load(at, size) || !ok && n != 0 {
			t.Fatalf("Load(%d, %d): %x, %v", at, size, n, ok)
		}
	case 5, 6, 7, 8, 9:
		n := r.Uint64()
		if ok := m.Store(uint64(at), size, n); ok != fits {
			t.Fatalf("Store(%d, %d): %v", at, size, ok)
		}
		if fits {
			l.store(at, size, n)
		}
	case 10, 11:
		size = r.Intn(40)
		fits = room(pages, uint64(at), size)
		s, ok := m.Bytes(uint64(at), size)
		if ok != fits || ok && s != string(l.b[at:at+size]) || !ok && s != "" {
			t.Fatalf("Bytes(%d, %d): %x, %v", at, size, s, ok)
		}
	case 12, 13:
		b := make([]byte, r.Intn(40))
		r.Read(b)
		fits = room(pages, uint64(at), len(b))
		if ok := m.Write(uint64(at), string(b)); ok != fits {
			t.Fatalf("Write(%d, %x): %v", at, b, ok)
		}
		if fits {
			copy(l.b[at:], b)
		}
	case 14:
		if r.Intn(100) > 0 {
			return
		}
		n, want := r.Intn(3), pages
		if pages+n > l.most {
			want = -1
		} else {
			l.b = append(l.b, make([]byte, n*page)...)
		}
		if got := m.Grow(uint32(n)); int(got) != want {
			t.Fatalf("Grow(%d): %d, not %d", n, got, want)
		}
	case 15:
		if m.Pages() != pages {
			t.Fatalf("%d pages, not %d", m.Pages(), pages)
		}
	}
}

// TestModel: P8.1 to P8.3: much done by chance, one thing behind the other, and beside it in another memory.
func TestModel(t *testing.T) {
	for seed := range int64(12) {
		r := rand.New(rand.NewSource(seed))
		var ms []*mem.Memory
		var ls []*model
		for range 2 {
			least := r.Intn(3)
			most := least + r.Intn(6)
			ms, ls = append(ms, bounded(t, least, most)), append(ls, &model{make([]byte, least*page), most})
		}
		for range 20000 {
			k := r.Intn(2)
			step(t, r, ms[k], ls[k])
		}
		for k := range ms {
			holds(t, ms[k], string(ls[k].b))
		}
	}
}

// TestApart: P8.3: one memory is none of another one's.
func TestApart(t *testing.T) {
	a, s := filled(t, 2)
	b := fresh(t, 2)
	holds(t, b, strings.Repeat("\x00", 2*page))
	b.Store(0, 8, math.MaxUint64)
	b.Write(page-3, "abcdef")
	b.Grow(1)
	holds(t, a, s)
	if a.Pages() != 2 || b.Pages() != 3 {
		t.Error(a.Pages(), b.Pages())
	}
}

// TestAsked: P3, P8.3: a text that was answered is what stood there then, whatever is done after it; and to ask changes nothing.
func TestAsked(t *testing.T) {
	m, s := filled(t, 2)
	var got []string
	ranges := [][2]int{{0, 1}, {0, 40}, {page - 5, 10}, {0, page}, {page, page}, {0, 2 * page}, {2*page - 1, 1}}
	for _, c := range ranges {
		text, _ := m.Bytes(uint64(c[0]), c[1])
		got = append(got, text)
	}
	for at := 0; at < 2*page; at += 8 {
		m.Load(uint64(at), 8)
	}
	holds(t, m, s)
	m.Write(0, strings.Repeat("\x00", 2*page))
	for k, c := range ranges {
		if got[k] != s[c[0]:c[0]+c[1]] {
			t.Errorf("%d bytes from %d on have changed", c[1], c[0])
		}
	}
}

// TestWritten: P3: nothing of a text that is written is kept, nor is it written into.
func TestWritten(t *testing.T) {
	for _, size := range []int{1, 9, 200, page, page + 5, 2 * page} {
		m, s := fresh(t, 2), []byte(pattern(size))
		m.Write(0, unsafe.String(&s[0], len(s)))
		m.Store(0, 1, 0)
		m.Store(uint64(size)-1, 1, 0)
		if string(s) != pattern(size) {
			t.Errorf("%d bytes: written into", size)
		}
		clear(s)
		got, _ := m.Bytes(1, max(0, size-2))
		if want := pattern(size); size > 2 && got != want[1:size-1] {
			t.Errorf("%d bytes: kept", size)
		}
	}
}

// TestTogether: P4: many memories at one time, each by itself.
func TestTogether(t *testing.T) {
	var all sync.WaitGroup
	for k := range uint64(8) {
		all.Go(func() {
			m, e := mem.New(1, 3)
			if e != api.OK || m.Grow(1) != 1 || m.Grow(1) != 2 || m.Grow(1) != -1 {
				t.Errorf("memory %d does not grow", k)
				return
			}
			for at := range uint64(3*page - 7) {
				stored := m.Store(at, 8, at*k)
				if n, ok := m.Load(at, 8); n != at*k || !ok || !stored {
					t.Errorf("memory %d at %d: %x, %v, %v", k, at, n, ok, stored)
					return
				}
			}
		})
	}
	all.Wait()
}
