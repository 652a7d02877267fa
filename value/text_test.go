package value_test

import (
	"math"
	"math/big"
	"strings"
	"sync"
	"testing"

	"tuckmill/api"
	"tuckmill/value"
)

// TestTextKnown: P10.3, case by case.
func TestTextKnown(t *testing.T) {
	for _, c := range []struct {
		v    api.Value
		t    api.Type
		want string
	}{
		{null, integer, "NULL"}, {null, dec(1), "NULL"}, {null, dec(9), "NULL"}, {null, bytes, "NULL"}, {null, boolean, "NULL"},
		{num(0), integer, "0"}, {num(7), integer, "7"}, {num(-7), integer, "-7"}, {num(100), integer, "100"}, {num(math.MaxInt64), integer, "9223372036854775807"}, {num(math.MinInt64), integer, "-9223372036854775808"},
		{num(150), dec(2), "1.50"}, {num(15), dec(2), "0.15"}, {num(5), dec(2), "0.05"}, {num(0), dec(2), "0.00"}, {num(0), dec(1), "0.0"}, {num(0), dec(9), "0.000000000"}, {num(-5), dec(2), "-0.05"}, {num(-15), dec(2), "-0.15"}, {num(-150), dec(2), "-1.50"}, {num(10), dec(1), "1.0"}, {num(9), dec(1), "0.9"}, {num(-1), dec(9), "-0.000000001"}, {num(123456789), dec(9), "0.123456789"}, {num(1234567890), dec(9), "1.234567890"}, {num(-12345), dec(3), "-12.345"},
		{num(math.MaxInt64), dec(9), "9223372036.854775807"}, {num(math.MinInt64), dec(9), "-9223372036.854775808"}, {num(math.MinInt64), dec(1), "-922337203685477580.8"},
		{text(""), bytes, "''"}, {text("a"), bytes, "'a'"}, {text("'"), bytes, "''''"}, {text("''"), bytes, "''''''"}, {text("it's"), bytes, "'it''s'"}, {text("'a'"), bytes, "'''a'''"}, {text("\x00\xff\n\\\""), bytes, "'\x00\xff\n\\\"'"}, {text("NULL"), bytes, "'NULL'"}, {text(long(200)), bytes, "'" + long(200) + "'"}, {text(strings.Repeat("'", 200)), bytes, strings.Repeat("'", 402)},
		{no, boolean, "FALSE"}, {yes, boolean, "TRUE"},
	} {
		if got, ok := value.Text(c.v, c.t); got != c.want || !ok {
			t.Errorf("Text(%+v, %+v): %q, %v, not %q", c.v, c.t, got, ok, c.want)
		}
	}
}

// TestTextNone: P10.3: what does not fit its type is not spelt.
func TestTextNone(t *testing.T) {
	none := func(v api.Value, of api.Type) {
		t.Helper()
		if got, ok := value.Text(v, of); got != "" || ok {
			t.Errorf("Text(%+v, %+v): %q, %v", v, of, got, ok)
		}
	}
	for _, of := range rights() {
		for _, v := range misfits() {
			none(v, of)
		}
		if of != bytes {
			none(text("a"), of)
		}
	}
	for _, n := range []int64{2, -1, 256, 1 << 32, 1<<32 + 1, math.MinInt64} {
		none(num(n), boolean)
		none(num(n), bytes)
	}
	none(yes, bytes)
	for _, of := range wrongs() {
		for _, v := range []api.Value{no, yes, null, num(15), text("a")} {
			none(v, of)
		}
	}
}

// TestTextNumbers: P10.3: the digits are those of the number that is meant, with just as many behind the point as there are places.
func TestTextNumbers(t *testing.T) {
	l, r := edges(), chance()
	for range 3000 {
		l = append(l, any64(r))
	}
	for places := range 10 {
		for _, n := range l {
			s, ok := value.Text(num(n), dec(places))
			read, right := new(big.Rat).SetString(s)
			if !ok || !right || read.Cmp(meant(n, places)) != 0 || read.FloatString(places) != s {
				t.Errorf("Text(%d, %d): %q, %v", n, places, s, ok)
			}
		}
	}
}

// TestTextBytes: P10.3: the bytes come back, byte by byte.
func TestTextBytes(t *testing.T) {
	l, r := texts(), chance()
	for range 3000 {
		b := make([]byte, r.Intn(201))
		for k := range b {
			b[k] = byte(r.Intn(256))
			if r.Intn(3) == 0 {
				b[k] = '\''
			}
		}
		l = append(l, string(b))
	}
	for _, want := range l {
		s, ok := value.Text(text(want), bytes)
		if !ok || len(s) < 2 || s[0] != '\'' || s[len(s)-1] != '\'' {
			t.Fatalf("%q: %q, %v", want, s, ok)
		}
		var got []byte
		for in := s[1 : len(s)-1]; in != ""; in = in[1:] {
			if in[0] == '\'' {
				if len(in) < 2 || in[1] != '\'' {
					t.Fatalf("%q: %q", want, s)
				}
				in = in[1:]
			}
			got = append(got, in[0])
		}
		if string(got) != want {
			t.Errorf("%q: %q", want, s)
		}
	}
}

// TestTextFits: P10.1, P10.3: a value is spelt just if it fits, and no two of one type alike.
func TestTextFits(t *testing.T) {
	l := append(misfits(), null, no, yes, num(2), num(-1))
	for _, of := range rights() {
		l = append(l, values(of, true)...)
	}
	for _, of := range append(rights(), wrongs()...) {
		seen := map[string]api.Value{}
		for _, v := range l {
			s, ok := value.Text(v, of)
			if ok != value.Fits(of, true, v) {
				t.Errorf("Text(%+v, %+v): %q, %v", v, of, s, ok)
			}
			if was, held := seen[s]; ok && held && was != v {
				t.Errorf("%+v: %+v and %+v are both %q", of, was, v, s)
			} else if ok {
				seen[s] = v
			}
		}
	}
}

// TestTotal: P1, P2, P4: every call ends, whatever it is given, told the same each time, and by all at one time; with an error, or a no, the rest is nothing.
func TestTotal(t *testing.T) {
	types := append(rights(), wrongs()...)
	l := append(misfits(), null, no, yes, num(math.MinInt64), num(math.MaxInt64), text("a"), text(long(200)))
	var wait sync.WaitGroup
	for range 8 {
		wait.Go(func() {
			r := chance()
			for range 30000 {
				op, a, b, ta, tb := byte(r.Intn(256)), chosen(r, l), chosen(r, l), chosen(r, types), chosen(r, types)
				if r.Intn(2) == 0 {
					op, ta, tb = chosen(r, []byte("+-*/")), chosen(r, rights()), chosen(r, rights())
				}
				checkTotal(t, op, a, b, ta, tb)
			}
		})
	}
	wait.Wait()
}

func checkTotal(t *testing.T, op byte, a, b api.Value, ta, tb api.Type) {
	v, e := value.Arith(op, a, b, ta, tb)
	of, ok := value.ArithType(op, ta, tb)
	c, held := value.Compare(a, b, ta, tb)
	s, spelt := value.Text(a, ta)
	n, scaled := value.Scale(a.N, ta.Scale, tb.Scale)
	if e != api.OK && v != no || (e == api.ErrType) == ok || !ok && of != (api.Type{}) || !held && c != 0 || !spelt && s != "" || scaled != api.OK && n != 0 {
		t.Errorf("%c, %+v, %+v, %+v, %+v", op, a, b, ta, tb)
	}
	if e == api.OK && !value.Fits(of, a.Null || b.Null, v) {
		t.Errorf("Arith(%c, %+v, %+v, %+v, %+v): %+v does not fit", op, a, b, ta, tb, v)
	}
	v2, e2 := value.Arith(op, a, b, ta, tb)
	c2, held2 := value.Compare(a, b, ta, tb)
	s2, _ := value.Text(a, ta)
	if v2 != v || e2 != e || c2 != c || held2 != held || s2 != s {
		t.Errorf("%c, %+v, %+v, %+v, %+v: not the same twice", op, a, b, ta, tb)
	}
	if o := value.Order(a, b, ta); o < -1 || o > 1 || o != -value.Order(b, a, ta) {
		t.Errorf("Order(%+v, %+v, %+v): %d", a, b, ta, o)
	}
	for _, v := range []api.Value{value.Not(a), value.And(a, b), value.Or(a, b)} {
		if !value.Fits(boolean, true, v) {
			t.Errorf("of %+v, %+v: %+v", a, b, v)
		}
	}
}
