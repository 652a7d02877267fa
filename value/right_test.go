package value_test

import (
	"math"
	"math/big"
	"strings"
	"testing"

	"tuckmill/api"
	"tuckmill/value"
)

// TestTypeRight: P10.1: the twelve types there are, and no other.
func TestTypeRight(t *testing.T) {
	for _, c := range []api.Type{{Kind: 1}, {Kind: 3}, {Kind: 4}, {Kind: 2, Scale: 1}, {Kind: 2, Scale: 2}, {Kind: 2, Scale: 3}, {Kind: 2, Scale: 4}, {Kind: 2, Scale: 5}, {Kind: 2, Scale: 6}, {Kind: 2, Scale: 7}, {Kind: 2, Scale: 8}, {Kind: 2, Scale: 9}} {
		if !value.TypeRight(c) {
			t.Errorf("%+v", c)
		}
	}
	for _, c := range wrongs() {
		if value.TypeRight(c) {
			t.Errorf("%+v", c)
		}
	}
	right := 0
	for kind := -300; kind < 300; kind++ {
		for scale := -300; scale < 300; scale++ {
			if value.TypeRight(api.Type{Kind: kind, Scale: scale}) {
				right++
			}
		}
	}
	if right != 12 {
		t.Error(right)
	}
}

// fitting is a value, and the kinds that it is of, if it is not nothing.
type fitting struct {
	v     api.Value
	kinds []int
}

func fittings() []fitting {
	number, all := []int{api.Int, api.Dec}, []int{api.Int, api.Dec, api.Bytes, api.Bool}
	l := []fitting{
		{num(0), all}, {num(1), []int{api.Int, api.Dec, api.Bool}},
		{num(2), number}, {num(-1), number}, {num(256), number}, {num(257), number}, {num(1 << 32), number}, {num(1<<32 + 1), number}, {num(math.MaxInt64), number}, {num(math.MinInt64), number}, {num(math.MinInt64 + 1), number},
	}
	for _, s := range texts()[1:] {
		l = append(l, fitting{text(s), []int{api.Bytes}})
	}
	for _, s := range []string{strings.Repeat("\x00", 200), strings.Repeat("\xff", 200), strings.Repeat("\xc3\xa4", 100), strings.Repeat("'", 200)} {
		l = append(l, fitting{text(s), []int{api.Bytes}})
	}
	for _, s := range []string{strings.Repeat("\x00", 201), strings.Repeat("\xc3\xa4", 101), strings.Repeat("a", 65536), strings.Repeat("a", 456)} {
		l = append(l, fitting{v: text(s)})
	}
	for _, v := range misfits() {
		l = append(l, fitting{v: v})
	}
	return l
}

// TestFits: P10.1: what is not nothing is of its type, or not, whether nothing may be or not.
func TestFits(t *testing.T) {
	for _, c := range fittings() {
		for _, of := range rights() {
			want := false
			for _, kind := range c.kinds {
				want = want || kind == of.Kind
			}
			for _, null := range []bool{false, true} {
				if got := value.Fits(of, null, c.v); got != want {
					t.Errorf("Fits(%+v, %v, %+v): %v", of, null, c.v, got)
				}
			}
		}
	}
}

// TestFitsNull: P10.1: nothing is of each type, where it may be.
func TestFitsNull(t *testing.T) {
	for _, of := range rights() {
		if !value.Fits(of, true, null) || value.Fits(of, false, null) {
			t.Errorf("%+v", of)
		}
	}
}

// TestFitsWrong: P10.1: of a type that is not right there are no values.
func TestFitsWrong(t *testing.T) {
	for _, of := range wrongs() {
		for _, v := range []api.Value{no, yes, null, num(5), text("a")} {
			if value.Fits(of, true, v) || value.Fits(of, false, v) {
				t.Errorf("%+v: %+v", of, v)
			}
		}
	}
}

// TestScaleKnown: P10.1, case by case, the chapter's example first.
func TestScaleKnown(t *testing.T) {
	for _, c := range []struct {
		n        int64
		from, to int
		want     int64
		e        api.Errno
	}{
		{5, 0, 2, 500, api.OK}, {5, 2, 2, 5, api.OK}, {-5, 1, 4, -5000, api.OK}, {0, 0, 9, 0, api.OK}, {7, 9, 9, 7, api.OK}, {1, 0, 9, 1000000000, api.OK}, {-1, 0, 9, -1000000000, api.OK}, {3, 8, 9, 30, api.OK}, {0, 0, 0, 0, api.OK},
		{math.MaxInt64, 0, 0, math.MaxInt64, api.OK}, {math.MinInt64, 0, 0, math.MinInt64, api.OK}, {math.MinInt64, 9, 9, math.MinInt64, api.OK},
		{922337203685477580, 0, 1, 9223372036854775800, api.OK}, {922337203685477581, 0, 1, 0, api.ErrArith}, {-922337203685477580, 3, 4, -9223372036854775800, api.OK}, {-922337203685477581, 3, 4, 0, api.ErrArith},
		{9223372036, 0, 9, 9223372036000000000, api.OK}, {9223372037, 0, 9, 0, api.ErrArith}, {-9223372036, 0, 9, -9223372036000000000, api.OK}, {-9223372037, 0, 9, 0, api.ErrArith},
		{math.MaxInt64, 0, 1, 0, api.ErrArith}, {math.MinInt64, 0, 1, 0, api.ErrArith}, {math.MaxInt64, 0, 9, 0, api.ErrArith}, {math.MinInt64, 0, 9, 0, api.ErrArith}, {1 << 62, 0, 2, 0, api.ErrArith}, {1 << 55, 0, 9, 0, api.ErrArith}, {1 << 60, 2, 6, 0, api.ErrArith},
		{5, 2, 1, 0, api.ErrArg}, {5, 9, 0, 0, api.ErrArg}, {5, -1, 0, 0, api.ErrArg}, {5, -1, -1, 0, api.ErrArg}, {5, 0, 10, 0, api.ErrArg}, {5, 10, 10, 0, api.ErrArg}, {5, 0, -1, 0, api.ErrArg}, {5, 10, 9, 0, api.ErrArg}, {5, -2, 1, 0, api.ErrArg}, {5, 1, 0, 0, api.ErrArg},
		{5, math.MinInt, math.MaxInt, 0, api.ErrArg}, {5, math.MaxInt, math.MinInt, 0, api.ErrArg}, {5, 0, math.MaxInt, 0, api.ErrArg}, {5, math.MinInt, 0, 0, api.ErrArg}, {5, 1 << 32, 1 << 32, 0, api.ErrArg}, {5, 256, 258, 0, api.ErrArg}, {5, 0, 1 << 32, 0, api.ErrArg},
		{math.MaxInt64, 0, 10, 0, api.ErrArg}, {math.MinInt64, -1, 9, 0, api.ErrArg}, {0, 3, 2, 0, api.ErrArg},
	} {
		if got, e := value.Scale(c.n, c.from, c.to); got != c.want || e != c.e {
			t.Errorf("Scale(%d, %d, %d): %d, %d", c.n, c.from, c.to, got, e)
		}
	}
}

// room is n, if it has room in 64 bits.
func room(n *big.Int) (int64, api.Errno) {
	if !n.IsInt64() {
		return 0, api.ErrArith
	}
	return n.Int64(), api.OK
}

// TestScaleModel: P10.1, against numbers of any size.
func TestScaleModel(t *testing.T) {
	l, r := edges(), chance()
	for range 2000 {
		l = append(l, any64(r))
	}
	for from := -2; from < 12; from++ {
		for to := -2; to < 12; to++ {
			for _, n := range l {
				want, e := int64(0), api.ErrArg
				if 0 <= from && from <= to && to <= 9 {
					want, e = room(new(big.Int).Mul(big.NewInt(n), ten(to-from)))
				}
				if got, err := value.Scale(n, from, to); got != want || err != e {
					t.Errorf("Scale(%d, %d, %d): %d, %d, not %d, %d", n, from, to, got, err, want, e)
				}
			}
		}
	}
}
