package value_test

import (
	"cmp"
	"math"
	"slices"
	"sort"
	"testing"

	"tuckmill/api"
	"tuckmill/value"
)

// TestCompareKnown: P10.3, case by case.
func TestCompareKnown(t *testing.T) {
	const most, least = math.MaxInt64, math.MinInt64
	for _, c := range []struct {
		a, b   api.Value
		ta, tb api.Type
		want   int
	}{
		{num(1), num(2), integer, integer, -1}, {num(2), num(2), integer, integer, 0}, {num(3), num(2), integer, integer, 1}, {num(-3), num(2), integer, integer, -1}, {num(-3), num(-4), integer, integer, 1}, {num(least), num(most), integer, integer, -1}, {num(most), num(least), integer, integer, 1}, {num(least), num(least), integer, integer, 0}, {num(0), num(least), integer, integer, 1},
		{num(1), num(15), integer, dec(1), -1}, {num(1), num(10), integer, dec(1), 0}, {num(1), num(9), integer, dec(1), 1}, {num(15), num(150), dec(1), dec(2), 0}, {num(15), num(151), dec(1), dec(2), -1}, {num(150), num(15), dec(3), dec(1), -1}, {num(-15), num(-150), dec(1), dec(2), 0}, {num(-15), num(-151), dec(1), dec(2), 1}, {num(7), num(7), dec(9), dec(9), 0}, {num(7), num(7), integer, dec(9), 1}, {num(-7), num(-7), integer, dec(9), -1}, {num(0), num(0), dec(9), integer, 0}, {num(2), num(10), dec(5), dec(5), -1},
		// Numbers that have no room when they are scaled.
		{num(most), num(most), integer, dec(9), 1}, {num(most), num(most), dec(9), integer, -1}, {num(least), num(least), integer, dec(9), -1}, {num(least), num(least), dec(9), integer, 1}, {num(most), num(least), integer, dec(9), 1}, {num(least), num(most), integer, dec(1), -1}, {num(922337203685477581), num(most), integer, dec(1), 1}, {num(922337203685477580), num(most), integer, dec(1), -1}, {num(-922337203685477581), num(least), integer, dec(1), -1}, {num(-922337203685477580), num(least), integer, dec(1), 1}, {num(1 << 62), num(0), integer, dec(2), 1}, {num(1 << 55), num(0), integer, dec(9), 1}, {num(0), num(1 << 55), dec(9), integer, -1}, {num(-1 << 55), num(0), integer, dec(9), -1}, {num(1 << 55), num(1), integer, dec(9), 1}, {num(9223372037), num(most), integer, dec(9), 1},
		{text(""), text(""), bytes, bytes, 0}, {text(""), text("\x00"), bytes, bytes, -1}, {text("a"), text("ab"), bytes, bytes, -1}, {text("ab"), text("a"), bytes, bytes, 1}, {text("ab"), text("ab"), bytes, bytes, 0}, {text("a"), text("B"), bytes, bytes, 1}, {text("10"), text("9"), bytes, bytes, -1}, {text("\x7f"), text("\x80"), bytes, bytes, -1}, {text("\xff"), text("a"), bytes, bytes, 1}, {text("b"), text("aaa"), bytes, bytes, 1}, {text(long(200)), text(long(199)), bytes, bytes, 1}, {text(long(199) + "y"), text(long(200)), bytes, bytes, 1},
		{no, no, boolean, boolean, 0}, {no, yes, boolean, boolean, -1}, {yes, no, boolean, boolean, 1}, {yes, yes, boolean, boolean, 0},
	} {
		if got, ok := value.Compare(c.a, c.b, c.ta, c.tb); got != c.want || !ok {
			t.Errorf("Compare(%+v, %+v, %+v, %+v): %d, %v, not %d", c.a, c.b, c.ta, c.tb, got, ok, c.want)
		}
	}
}

func notCompared(t *testing.T, a, b api.Value, ta, tb api.Type) {
	t.Helper()
	if got, ok := value.Compare(a, b, ta, tb); got != 0 || ok {
		t.Errorf("Compare(%+v, %+v, %+v, %+v): %d, %v", a, b, ta, tb, got, ok)
	}
	if got, ok := value.Compare(b, a, tb, ta); got != 0 || ok {
		t.Errorf("Compare(%+v, %+v, %+v, %+v): %d, %v", b, a, tb, ta, got, ok)
	}
}

// TestCompareTypes: P10.3: a number, a text and a truth are not held against one another, though 0 is a value of all.
func TestCompareTypes(t *testing.T) {
	for _, ta := range rights() {
		for _, tb := range rights() {
			if ta == tb || ta.Kind < api.Bytes && tb.Kind < api.Bytes {
				if got, ok := value.Compare(no, no, ta, tb); got != 0 || !ok {
					t.Errorf("%+v, %+v: %d, %v", ta, tb, got, ok)
				}
				continue
			}
			for _, a := range []api.Value{no, yes, num(2), text("a")} {
				for _, b := range []api.Value{no, yes, num(2), text("a")} {
					notCompared(t, a, b, ta, tb)
				}
			}
		}
		for _, tb := range wrongs() {
			notCompared(t, no, no, ta, tb)
			notCompared(t, yes, no, ta, tb)
		}
	}
	for _, of := range wrongs() {
		notCompared(t, no, yes, of, of)
		notCompared(t, text("a"), text("b"), of, of)
	}
}

// TestCompareFits: P10.3: what is nothing, or does not fit, is not held against anything.
func TestCompareFits(t *testing.T) {
	bad := append(misfits(), null)
	for _, of := range rights() {
		l := bad
		switch of.Kind {
		case api.Bytes:
			l = append(slices.Clone(l), num(1), num(-1), num(1<<32))
		case api.Bool:
			l = append(slices.Clone(l), num(2), num(-1), num(1<<32), num(1<<32+1), num(math.MinInt64), text("a"))
		default:
			l = append(slices.Clone(l), text("a"), text("\x00"))
		}
		for _, a := range l {
			notCompared(t, a, no, of, of)
			notCompared(t, a, a, of, of)
			notCompared(t, a, null, of, of)
		}
	}
}

func checkCompare(t *testing.T, a, b int64, sa, sb int) {
	t.Helper()
	want := meant(a, sa).Cmp(meant(b, sb))
	if got, ok := value.Compare(num(a), num(b), dec(sa), dec(sb)); got != want || !ok {
		t.Errorf("Compare(%d, %d, %d, %d): %d, %v, not %d", a, b, sa, sb, got, ok, want)
	}
}

// TestCompareModel: P10.3, numbers against numbers of any size: at the edges, by chance, and where they are nearly the same.
func TestCompareModel(t *testing.T) {
	l, r := edges(), chance()
	for _, a := range l {
		for _, b := range l {
			checkCompare(t, a, b, 0, 9)
			checkCompare(t, a, b, r.Intn(10), r.Intn(10))
		}
	}
	for sa := range 10 {
		for sb := range 10 {
			for range 1000 {
				checkCompare(t, any64(r), any64(r), sa, sb)
			}
			if sa > sb {
				continue
			}
			p := ten(sb - sa).Int64()
			for range 200 {
				n := any64(r) / p
				for d := int64(-2); d <= 2; d++ {
					checkCompare(t, n, n*p+d, sa, sb)
					checkCompare(t, n*p+d, n, sb, sa)
				}
			}
		}
	}
}

// TestCompareTexts: P10.3: every two of the texts, which stand in their order.
func TestCompareTexts(t *testing.T) {
	l := texts()
	slices.SortFunc(l, func(a, b string) int { return slices.Compare([]byte(a), []byte(b)) })
	for i, a := range l {
		for k, b := range l {
			if got, ok := value.Compare(text(a), text(b), bytes, bytes); got != cmp.Compare(i, k) || !ok {
				t.Errorf("%q, %q: %d, %v", a, b, got, ok)
			}
		}
	}
}

// logic is what P10.3 says of three values, in the order false, nothing, true.
var logic = struct {
	not     [3]api.Value
	and, or [3][3]api.Value
}{
	not: [3]api.Value{yes, null, no},
	and: [3][3]api.Value{{no, no, no}, {no, null, null}, {no, null, yes}},
	or:  [3][3]api.Value{{no, null, yes}, {null, null, yes}, {yes, yes, yes}},
}

// truths are values that are false, nothing and true: P10.3 takes any.
func truths() [3][]api.Value {
	return [3][]api.Value{
		{no, text("a"), text("\x00"), text(long(300))},
		{null, {Null: true, N: 1}, {Null: true, N: -1}, {Null: true, S: "a"}, {Null: true, N: 7, S: "a"}, {Null: true, N: math.MinInt64}},
		{yes, num(2), num(-1), num(256), num(1 << 32), num(math.MinInt64), num(math.MaxInt64), {N: 1, S: "a"}, {N: -5, S: long(300)}},
	}
}

// TestLogic: P10.3: Not, And and Or of any values.
func TestLogic(t *testing.T) {
	l := truths()
	for i := range l {
		for _, a := range l[i] {
			if got := value.Not(a); got != logic.not[i] {
				t.Errorf("Not(%+v): %+v", a, got)
			}
			for k := range l {
				for _, b := range l[k] {
					if got := value.And(a, b); got != logic.and[i][k] {
						t.Errorf("And(%+v, %+v): %+v", a, b, got)
					}
					if got := value.Or(a, b); got != logic.or[i][k] {
						t.Errorf("Or(%+v, %+v): %+v", a, b, got)
					}
				}
			}
		}
	}
}

// TestOrderKnown: P10.3, case by case.
func TestOrderKnown(t *testing.T) {
	for _, c := range []struct {
		a, b api.Value
		t    api.Type
		want int
	}{
		{null, null, integer, 0}, {null, num(math.MinInt64), integer, -1}, {num(math.MinInt64), null, integer, 1}, {null, text(""), bytes, -1}, {text(""), null, bytes, 1}, {null, no, boolean, -1}, {no, null, boolean, 1}, {null, num(-5), dec(9), -1}, {null, null, bytes, 0}, {null, null, boolean, 0},
		{num(1), num(2), integer, -1}, {num(2), num(1), integer, 1}, {num(2), num(2), integer, 0}, {num(-3), num(2), dec(3), -1}, {num(10), num(9), dec(3), 1}, {text("a"), text("ab"), bytes, -1}, {text("b"), text("ab"), bytes, 1}, {no, yes, boolean, -1}, {yes, no, boolean, 1}, {yes, yes, boolean, 0},
		// Compare is false of these.
		{num(1), text("a"), integer, 0}, {text("a"), num(1), integer, 0}, {num(1), num(2), bytes, 0}, {num(2), num(3), boolean, 0}, {text("a"), text("b"), integer, 0}, {text(long(200)), text(long(201)), bytes, 0}, {num(1), num(2), api.Type{}, 0}, {num(1), num(2), api.Type{Kind: api.Dec}, 0}, {num(1), num(2), api.Type{Kind: api.Int, Scale: 1}, 0}, {num(1), num(2), api.Type{Kind: api.Dec, Scale: 10}, 0},
		// Nothing is ahead of all else, whatever that is, and of what type.
		{null, text("a"), integer, -1}, {text("a"), null, integer, 1}, {null, num(1), api.Type{}, -1}, {num(1), null, api.Type{}, 1}, {null, null, api.Type{}, 0}, {null, text(long(201)), bytes, -1},
	} {
		if got := value.Order(c.a, c.b, c.t); got != c.want {
			t.Errorf("Order(%+v, %+v, %+v): %d, not %d", c.a, c.b, c.t, got, c.want)
		}
	}
}

// TestOrderOne: P10.4: of all values of a type there is one order: each two are the same just if they are one value, and what is ahead of another one is ahead of all that are behind that one.
func TestOrderOne(t *testing.T) {
	for _, of := range rights() {
		l := values(of, true)
		sort.Slice(l, func(i, k int) bool { return value.Order(l[i], l[k], of) < 0 })
		l = slices.Compact(l)
		if l[0] != null {
			t.Errorf("%+v: %+v is the first", of, l[0])
		}
		for i, a := range l {
			for k, b := range l {
				if got := value.Order(a, b, of); got != cmp.Compare(i, k) {
					t.Errorf("Order(%+v, %+v, %+v): %d", a, b, of, got)
				}
				c, ok := value.Compare(a, b, of, of)
				if ok != (i > 0 && k > 0) || ok && c != cmp.Compare(i, k) {
					t.Errorf("Compare(%+v, %+v, %+v): %d, %v", a, b, of, c, ok)
				}
			}
		}
	}
}

// TestOrderChance: P10.4: of any three values of a type.
func TestOrderChance(t *testing.T) {
	r := chance()
	for _, of := range rights() {
		l := values(of, true)
		for range 20000 {
			v := [3]api.Value{chosen(r, l), chosen(r, l), chosen(r, l)}
			if of.Kind < api.Bytes && r.Intn(2) == 0 {
				v[r.Intn(3)] = num(any64(r))
			}
			ab, bc, ac := value.Order(v[0], v[1], of), value.Order(v[1], v[2], of), value.Order(v[0], v[2], of)
			if ab <= 0 && bc <= 0 && ac != min(ab, bc) || ab != -value.Order(v[1], v[0], of) || (ab == 0) != (v[0] == v[1]) {
				t.Errorf("%+v of %+v: %d, %d, %d", v, of, ab, bc, ac)
			}
		}
	}
}
