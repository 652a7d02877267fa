package value_test

import (
	"math"
	"math/big"
	"testing"

	"tuckmill/api"
	"tuckmill/value"
)

// scaleOf is what P10.2 says of scales; -1: there is none.
func scaleOf(op byte, a, b int) int {
	scale := -1
	switch {
	case op == '+' || op == '-':
		scale = max(a, b)
	case op == '*' && a+b < 10:
		scale = a + b
	case op == '/' && b == 0:
		scale = a
	}
	return scale
}

// TestArithTypeKnown: P10.2, case by case.
func TestArithTypeKnown(t *testing.T) {
	none := api.Type{}
	for _, c := range []struct {
		op         byte
		a, b, want api.Type
	}{
		{'+', integer, integer, integer}, {'+', integer, dec(2), dec(2)}, {'+', dec(3), dec(2), dec(3)}, {'+', dec(9), dec(9), dec(9)}, {'-', dec(1), integer, dec(1)}, {'-', integer, integer, integer}, {'-', dec(1), dec(9), dec(9)},
		{'*', integer, integer, integer}, {'*', integer, dec(4), dec(4)}, {'*', dec(4), integer, dec(4)}, {'*', dec(4), dec(5), dec(9)}, {'*', dec(5), dec(5), none}, {'*', dec(9), integer, dec(9)}, {'*', dec(9), dec(1), none}, {'*', dec(9), dec(9), none},
		{'/', integer, integer, integer}, {'/', dec(3), integer, dec(3)}, {'/', dec(9), integer, dec(9)}, {'/', integer, dec(1), none}, {'/', dec(3), dec(3), none}, {'/', dec(1), dec(9), none},
		{'%', integer, integer, none}, {0, integer, integer, none}, {'=', integer, integer, none}, {255, integer, integer, none}, {'*' + 128, integer, integer, none},
		{'+', bytes, bytes, none}, {'+', boolean, boolean, none}, {'+', integer, bytes, none}, {'+', boolean, integer, none}, {'/', bytes, integer, none}, {'*', dec(2), boolean, none},
		{'+', api.Type{Kind: api.Int, Scale: 1}, integer, none}, {'+', integer, api.Type{Kind: api.Dec}, none}, {'-', api.Type{Kind: api.Dec, Scale: 10}, integer, none}, {'-', integer, api.Type{Kind: api.Dec, Scale: -1}, none}, {'*', api.Type{Kind: api.Dec, Scale: 12}, api.Type{Kind: api.Dec, Scale: -4}, none}, {'/', api.Type{}, integer, none}, {'/', api.Type{Kind: api.Dec}, integer, none}, {'*', api.Type{Kind: api.Dec, Scale: math.MaxInt}, dec(1), none},
	} {
		if got, ok := value.ArithType(c.op, c.a, c.b); got != c.want || ok != (c.want != none) {
			t.Errorf("ArithType(%c, %+v, %+v): %+v, %v", c.op, c.a, c.b, got, ok)
		}
	}
}

// TestArithTypeEvery: P10.2: every op of all types that are right.
func TestArithTypeEvery(t *testing.T) {
	for op := range 256 {
		for _, a := range rights() {
			for _, b := range rights() {
				want, known := api.Type{}, false
				if a.Kind < api.Bytes && b.Kind < api.Bytes {
					if scale := scaleOf(byte(op), a.Scale, b.Scale); scale >= 0 {
						want, known = dec(scale), true
					}
				}
				if got, ok := value.ArithType(byte(op), a, b); got != want || ok != known {
					t.Errorf("ArithType(%c, %+v, %+v): %+v, %v", op, a, b, got, ok)
				}
			}
		}
	}
}

// TestArithTypeWrong: P10.2: of what is no type nothing is made.
func TestArithTypeWrong(t *testing.T) {
	for _, op := range []byte("+-*/") {
		for _, a := range wrongs() {
			for _, b := range append(rights(), a) {
				one, first := value.ArithType(op, a, b)
				two, second := value.ArithType(op, b, a)
				if first || second || one != (api.Type{}) || two != (api.Type{}) {
					t.Errorf("ArithType(%c, %+v, %+v): %+v, %+v", op, a, b, one, two)
				}
				if v, e := value.Arith(op, no, no, a, b); v != no || e != api.ErrType {
					t.Errorf("Arith(%c, of %+v, %+v): %+v, %d", op, a, b, v, e)
				}
				if v, e := value.Arith(op, no, no, b, a); v != no || e != api.ErrType {
					t.Errorf("Arith(%c, of %+v, %+v): %+v, %d", op, b, a, v, e)
				}
			}
		}
	}
}

// TestArithKnown: P10.2, case by case.
func TestArithKnown(t *testing.T) {
	const most, least = math.MaxInt64, math.MinInt64
	for _, c := range []struct {
		op     byte
		a, b   int64
		ta, tb api.Type
		want   int64
		e      api.Errno
	}{
		{'+', 2, 3, integer, integer, 5, api.OK}, {'+', 1, 15, integer, dec(1), 25, api.OK}, {'+', 150, 5, dec(2), dec(1), 200, api.OK}, {'+', -1, 1, integer, dec(9), -999999999, api.OK}, {'+', most, 0, integer, integer, most, api.OK}, {'+', most, least, integer, integer, -1, api.OK},
		{'+', most, 1, integer, integer, 0, api.ErrArith}, {'+', least, -1, integer, integer, 0, api.ErrArith}, {'+', most, most, integer, integer, 0, api.ErrArith}, {'+', least, least, integer, integer, 0, api.ErrArith}, {'+', 1 << 62, 1 << 62, dec(3), dec(3), 0, api.ErrArith}, {'+', -1 << 62, -1 << 62, dec(3), dec(3), least, api.OK},
		{'-', 2, 3, integer, integer, -1, api.OK}, {'-', 2, 3, dec(1), integer, -28, api.OK}, {'-', 0, most, integer, integer, -most, api.OK}, {'-', -1, least, integer, integer, most, api.OK}, {'-', -1, most, dec(1), dec(1), least, api.OK}, {'-', least, least, integer, integer, 0, api.OK},
		{'-', 0, least, integer, integer, 0, api.ErrArith}, {'-', -2, most, integer, integer, 0, api.ErrArith}, {'-', least, 1, integer, integer, 0, api.ErrArith}, {'-', most, -1, integer, integer, 0, api.ErrArith}, {'-', most, least, integer, integer, 0, api.ErrArith},
		// A number has no room when it is scaled, though what comes out would have.
		{'-', 922337203685477581, most, integer, dec(1), 0, api.ErrArith}, {'-', most, 922337203685477581, dec(1), integer, 0, api.ErrArith}, {'+', 922337203685477581, -most, integer, dec(1), 0, api.ErrArith}, {'+', -most, 922337203685477581, dec(1), integer, 0, api.ErrArith}, {'+', least, most, integer, dec(9), 0, api.ErrArith}, {'-', 9223372037, 9223372037, integer, dec(9), 0, api.ErrArith},
		{'-', 922337203685477580, most, integer, dec(1), -7, api.OK}, {'+', -most, 922337203685477580, dec(1), integer, -7, api.OK}, {'+', 9223372036, 854775807, integer, dec(9), most, api.OK}, {'+', 9223372036, 854775808, integer, dec(9), 0, api.ErrArith}, {'+', -9223372036, -854775808, integer, dec(9), least, api.OK}, {'+', -9223372036, -854775809, integer, dec(9), 0, api.ErrArith},
		{'*', 2, 3, integer, integer, 6, api.OK}, {'*', 15, 15, dec(1), dec(1), 225, api.OK}, {'*', 15, 2, dec(1), integer, 30, api.OK}, {'*', -7, 3, dec(4), dec(5), -21, api.OK}, {'*', 0, least, integer, integer, 0, api.OK}, {'*', 1, least, integer, integer, least, api.OK}, {'*', most, -1, integer, integer, -most, api.OK}, {'*', 1 << 31, -1 << 32, integer, integer, least, api.OK}, {'*', -1 << 32, 1 << 31, integer, integer, least, api.OK},
		{'*', least, -1, integer, integer, 0, api.ErrArith}, {'*', -1, least, integer, integer, 0, api.ErrArith}, {'*', 1 << 32, 1 << 31, integer, integer, 0, api.ErrArith}, {'*', -1 << 32, -1 << 31, integer, integer, 0, api.ErrArith}, {'*', 1 << 32, 1 << 32, integer, integer, 0, api.ErrArith}, {'*', least, least, integer, integer, 0, api.ErrArith}, {'*', most, most, integer, integer, 0, api.ErrArith}, {'*', least, most, integer, integer, 0, api.ErrArith}, {'*', most, 2, integer, integer, 0, api.ErrArith}, {'*', 3037000500, 3037000500, integer, integer, 0, api.ErrArith}, {'*', 3037000499, 3037000499, integer, integer, 9223372030926249001, api.OK},
		{'/', 7, 2, integer, integer, 3, api.OK}, {'/', -7, 2, integer, integer, -3, api.OK}, {'/', 7, -2, integer, integer, -3, api.OK}, {'/', -7, -2, integer, integer, 3, api.OK}, {'/', 150, 4, dec(2), integer, 37, api.OK}, {'/', 1, 2, integer, integer, 0, api.OK}, {'/', -1, 2, integer, integer, 0, api.OK}, {'/', 0, 5, dec(9), integer, 0, api.OK}, {'/', least, 1, integer, integer, least, api.OK}, {'/', most, -1, integer, integer, -most, api.OK}, {'/', least + 1, -1, integer, integer, most, api.OK}, {'/', least, least, integer, integer, 1, api.OK}, {'/', least, 2, integer, integer, -1 << 62, api.OK}, {'/', most, least, integer, integer, 0, api.OK},
		{'/', 5, 0, integer, integer, 0, api.ErrArith}, {'/', 0, 0, integer, integer, 0, api.ErrArith}, {'/', 5, 0, dec(9), integer, 0, api.ErrArith}, {'/', least, 0, integer, integer, 0, api.ErrArith}, {'/', least, -1, integer, integer, 0, api.ErrArith}, {'/', least, -1, dec(5), integer, 0, api.ErrArith},
		{'/', 5, 0, integer, dec(1), 0, api.ErrType}, {'*', most, most, dec(5), dec(5), 0, api.ErrType}, {'%', 5, 3, integer, integer, 0, api.ErrType}, {'+', 0, 0, bytes, bytes, 0, api.ErrType}, {'+', 1, 1, boolean, boolean, 0, api.ErrType}, {'+', 1, 1, integer, boolean, 0, api.ErrType}, {'-', 0, 0, bytes, integer, 0, api.ErrType},
	} {
		if got, e := value.Arith(c.op, num(c.a), num(c.b), c.ta, c.tb); got != num(c.want) || e != c.e {
			t.Errorf("Arith(%c, %d, %d, %+v, %+v): %+v, %d", c.op, c.a, c.b, c.ta, c.tb, got, e)
		}
	}
}

// TestArithNull: P10.2: nothing, if one is nothing, though the other one is 0, or has no room when it is scaled.
func TestArithNull(t *testing.T) {
	for _, op := range []byte("+-*/") {
		for _, ta := range numbers() {
			for _, tb := range numbers() {
				want, e := null, api.OK
				if scaleOf(op, ta.Scale, tb.Scale) < 0 {
					want, e = no, api.ErrType
				}
				for _, n := range []int64{0, 1, -1, 77, math.MaxInt64, math.MinInt64} {
					for _, c := range [][2]api.Value{{null, num(n)}, {num(n), null}, {null, null}} {
						if got, err := value.Arith(op, c[0], c[1], ta, tb); got != want || err != e {
							t.Errorf("Arith(%c, %+v, %+v, %+v, %+v): %+v, %d", op, c[0], c[1], ta, tb, got, err)
						}
					}
				}
			}
		}
	}
}

// TestArithArg: P10.2: what does not fit is told behind types that may not be, and ahead of all that is reckoned.
func TestArithArg(t *testing.T) {
	bad := append(misfits(), text("a"), text("\x00"), text(long(200)))
	for _, op := range []byte("+-*/") {
		for _, ta := range append(numbers(), bytes, boolean) {
			for _, tb := range append(numbers(), bytes, boolean) {
				e := api.ErrArg
				if ta.Kind >= api.Bytes || tb.Kind >= api.Bytes || scaleOf(op, ta.Scale, tb.Scale) < 0 {
					e = api.ErrType
				}
				for _, v := range bad {
					for _, c := range [][2]api.Value{{v, num(0)}, {num(0), v}, {num(math.MaxInt64), v}, {v, num(math.MinInt64)}, {v, null}, {null, v}, {v, v}} {
						if got, err := value.Arith(op, c[0], c[1], ta, tb); got != no || err != e {
							t.Errorf("Arith(%c, %+v, %+v, %+v, %+v): %+v, %d", op, c[0], c[1], ta, tb, got, err)
						}
					}
				}
			}
		}
	}
}

// reckoned is what P10.2 says, in numbers of any size.
func reckoned(op byte, a, b int64, sa, sb int) (int64, api.Errno) {
	x, y := big.NewInt(a), big.NewInt(b)
	scale := scaleOf(op, sa, sb)
	switch {
	case scale < 0:
		return 0, api.ErrType
	case op == '*':
		return room(x.Mul(x, y))
	case op == '/' && b == 0:
		return 0, api.ErrArith
	case op == '/':
		return room(x.Quo(x, y))
	}
	x.Mul(x, ten(scale-sa))
	y.Mul(y, ten(scale-sb))
	if !x.IsInt64() || !y.IsInt64() {
		return 0, api.ErrArith
	}
	if op == '-' {
		return room(x.Sub(x, y))
	}
	return room(x.Add(x, y))
}

func checkArith(t *testing.T, op byte, a, b int64, sa, sb int) {
	t.Helper()
	want, e := reckoned(op, a, b, sa, sb)
	if got, err := value.Arith(op, num(a), num(b), dec(sa), dec(sb)); got != num(want) || err != e {
		t.Errorf("Arith(%c, %d, %d, %d, %d): %+v, %d, not %d, %d", op, a, b, sa, sb, got, err, want, e)
	}
}

// TestArithModel: P10.2, against numbers of any size: at the edges, and by chance.
func TestArithModel(t *testing.T) {
	l, r := edges(), chance()
	for _, op := range []byte("+-*/") {
		for _, a := range l {
			for _, b := range l {
				checkArith(t, op, a, b, 0, 0)
				checkArith(t, op, a, b, r.Intn(10), r.Intn(10))
			}
		}
		for sa := range 10 {
			for sb := range 10 {
				for range 1000 {
					checkArith(t, op, any64(r), any64(r), sa, sb)
				}
			}
		}
	}
}

// TestArithFits: what comes out fits the type that ArithType tells, and stands for what it is meant to: exactly, but for a quotient.
func TestArithFits(t *testing.T) {
	r := chance()
	for range 100000 {
		op, a, b, sa, sb := chosen(r, []byte("+-*/")), any64(r), any64(r), r.Intn(10), r.Intn(10)
		of, ok := value.ArithType(op, dec(sa), dec(sb))
		v, e := value.Arith(op, num(a), num(b), dec(sa), dec(sb))
		if ok != (e != api.ErrType) || e == api.OK && !value.Fits(of, false, v) {
			t.Errorf("Arith(%c, %d, %d, %d, %d): %+v, %d: %+v, %v", op, a, b, sa, sb, v, e, of, ok)
		}
		if e != api.OK {
			continue
		}
		x, y := meant(a, sa), meant(b, sb)
		switch op {
		case '+':
			x.Add(x, y)
		case '-':
			x.Sub(x, y)
		case '*':
			x.Mul(x, y)
		default:
			continue
		}
		if x.Cmp(meant(v.N, of.Scale)) != 0 {
			t.Errorf("Arith(%c, %d, %d, %d, %d): %+v stands for another number", op, a, b, sa, sb, v)
		}
	}
}
