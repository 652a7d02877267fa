package op_test

import (
	"math"
	"slices"
	"strconv"
	"strings"
	"sync"
	"testing"

	"tuckmill/api"
	"tuckmill/num"
	"tuckmill/op"
)

// known is every instruction: its code, its name, its shape, what it takes and what it answers (i for 127, l for 126, - for nothing).
const known = `
00 unreachable plain - -
01 nop plain - -
02 block block - -
03 loop block - -
04 if block - -
05 else plain - -
0b end plain - -
0c br label - -
0d br_if label - -
0e br_table labels - -
0f return plain - -
10 call index - -
1a drop plain - -
1b select plain - -
20 local.get index - -
21 local.set index - -
22 local.tee index - -
23 global.get index - -
24 global.set index - -
28 i32.load memory i i
29 i64.load memory i l
2c i32.load8_s memory i i
2d i32.load8_u memory i i
2e i32.load16_s memory i i
2f i32.load16_u memory i i
30 i64.load8_s memory i l
31 i64.load8_u memory i l
32 i64.load16_s memory i l
33 i64.load16_u memory i l
34 i64.load32_s memory i l
35 i64.load32_u memory i l
36 i32.store memory ii -
37 i64.store memory il -
3a i32.store8 memory ii -
3b i32.store16 memory ii -
3c i64.store8 memory il -
3d i64.store16 memory il -
3e i64.store32 memory il -
3f memory.size zero - i
40 memory.grow zero i i
41 i32.const const - i
42 i64.const const - l
45 i32.eqz plain i i
46 i32.eq plain ii i
47 i32.ne plain ii i
48 i32.lt_s plain ii i
49 i32.lt_u plain ii i
4a i32.gt_s plain ii i
4b i32.gt_u plain ii i
4c i32.le_s plain ii i
4d i32.le_u plain ii i
4e i32.ge_s plain ii i
4f i32.ge_u plain ii i
50 i64.eqz plain l i
51 i64.eq plain ll i
52 i64.ne plain ll i
53 i64.lt_s plain ll i
54 i64.lt_u plain ll i
55 i64.gt_s plain ll i
56 i64.gt_u plain ll i
57 i64.le_s plain ll i
58 i64.le_u plain ll i
59 i64.ge_s plain ll i
5a i64.ge_u plain ll i
67 i32.clz plain i i
68 i32.ctz plain i i
69 i32.popcnt plain i i
6a i32.add plain ii i
6b i32.sub plain ii i
6c i32.mul plain ii i
6d i32.div_s plain ii i
6e i32.div_u plain ii i
6f i32.rem_s plain ii i
70 i32.rem_u plain ii i
71 i32.and plain ii i
72 i32.or plain ii i
73 i32.xor plain ii i
74 i32.shl plain ii i
75 i32.shr_s plain ii i
76 i32.shr_u plain ii i
77 i32.rotl plain ii i
78 i32.rotr plain ii i
79 i64.clz plain l l
7a i64.ctz plain l l
7b i64.popcnt plain l l
7c i64.add plain ll l
7d i64.sub plain ll l
7e i64.mul plain ll l
7f i64.div_s plain ll l
80 i64.div_u plain ll l
81 i64.rem_s plain ll l
82 i64.rem_u plain ll l
83 i64.and plain ll l
84 i64.or plain ll l
85 i64.xor plain ll l
86 i64.shl plain ll l
87 i64.shr_s plain ll l
88 i64.shr_u plain ll l
89 i64.rotl plain ll l
8a i64.rotr plain ll l
a7 i32.wrap_i64 plain l i
ac i64.extend_i32_s plain i l
ad i64.extend_i32_u plain i l
`

// floats are the runs of codes that have to do with floats, both ends in them.
const floats = "2a-2b 38-39 43-44 5b-66 8b-a6 a8-ab ae-bf"

// unused are those of WebAssembly 1.0's range that are neither: codes of nothing, and 11, which calls through a table.
const unused = "06-0a 11-19 1c-1f 25-27"

func hex(t *testing.T, s string) int {
	t.Helper()
	n, err := strconv.ParseInt(s, 16, 0)
	if err != nil {
		t.Fatal(err)
	}
	return int(n)
}

// runs reads runs of codes.
func runs(t *testing.T, s string) []int {
	t.Helper()
	var l []int
	for _, r := range strings.Fields(s) {
		first, last, _ := strings.Cut(r, "-")
		for code := hex(t, first); code <= hex(t, last); code++ {
			l = append(l, code)
		}
	}
	return l
}

// infos is what the document says, by code.
func infos(t *testing.T) map[int]op.Info {
	t.Helper()
	shapes := map[string]int{"plain": op.Plain, "block": op.Block, "label": op.Label, "labels": op.Labels, "index": op.Index, "memory": op.Memory, "zero": op.Zero, "const": op.Const}
	types := strings.NewReplacer("-", "", "i", "\x7f", "l", "\x7e")
	m := map[int]op.Info{}
	for _, line := range strings.Split(strings.TrimSpace(known), "\n") {
		f := strings.Fields(line)
		shape, ok := shapes[f[2]]
		if !ok || len(f) != 5 {
			t.Fatal(line)
		}
		m[hex(t, f[0])] = op.Info{Name: f[1], Shape: shape, Params: types.Replace(f[3]), Results: types.Replace(f[4])}
	}
	if len(m) != 103 {
		t.Fatal(len(m))
	}
	return m
}

// codes are those of a byte, many beside them, and those that would be one of a byte's, if they were cut to fewer bits.
func codes() []int {
	l := []int{math.MinInt, math.MinInt + 1, math.MaxInt, math.MaxInt - 1}
	for code := -2000; code < 5000; code++ {
		l = append(l, code)
	}
	for code := range 256 {
		l = append(l, code+1<<16, code+1<<32, code+1<<40, code-1<<16, code-1<<31, code-1<<32, code+math.MinInt, code<<8, code<<24)
	}
	return l
}

func TestShapes(t *testing.T) {
	got := []int{op.Plain, op.Block, op.Label, op.Labels, op.Index, op.Memory, op.Zero, op.Const}
	if !slices.Equal(got, []int{0, 1, 2, 3, 4, 5, 6, 7}) {
		t.Error(got)
	}
}

func TestExample(t *testing.T) {
	info, ok := op.Of(0x6a)
	if want := (op.Info{Name: "i32.add", Shape: op.Plain, Params: "\x7f\x7f", Results: "\x7f"}); info != want || !ok {
		t.Errorf("%+v %v", info, ok)
	}
}

// TestOf: P3.1 and P3.2: each code that there is, and no other.
func TestOf(t *testing.T) {
	m := infos(t)
	for _, code := range codes() {
		info, ok := op.Of(code)
		want, there := m[code]
		if info != want || ok != there {
			t.Errorf("Of(%x): %+v %v, not %+v %v", code, info, ok, want, there)
		}
	}
}

// TestCode: P3.3: each name that there is.
func TestCode(t *testing.T) {
	for want, info := range infos(t) {
		if code, ok := op.Code(info.Name); code != want || !ok {
			t.Errorf("Code(%s): %x %v, not %x", info.Name, code, ok, want)
		}
	}
}

// TestNoCode: P3.3: names that are none.
func TestNoCode(t *testing.T) {
	names := map[string]int{}
	for code, info := range infos(t) {
		names[info.Name] = code
	}
	l := []string{
		"", " ", ".", "i32", "i32.", "i64.", "local", "local.", "global.", "memory.", "add", "const", "load", "get", "size", "_s",
		"unreachable nop", "br br_if", "i32.eq ne", "i32.add sub", "i32.add i32.sub", "local.get set", "i32.i32.add", "i32.br", "i32.nop", "i64.end",
		"i32.load32_s", "i32.load32_u", "i32.store32", "i32.load64", "i64.load8", "i64.store8_s", "i64.wrap_i64", "i32.wrap_i32", "i32.extend_i32_s", "i64.extend_i64_s", "i64.extend8_s",
		"local.size", "global.tee", "memory.get", "memory.copy", "memory.init", "get_local", "call_indirect", "table.get", "br_on_null", "return_call",
		"f32.add", "f64.const", "f32.load", "f64.store", "i32.trunc_f32_s", "f32.convert_i32_s", "i32.reinterpret_f32", "f64.promote_f32",
		"plain", "i32.lt", "i32.div", "i64.shr", "i32.not", "I32.add", "i32.ADD", "End", "i32.add\x00", "\x00", "\xff", "i32,add", "i32 add", "i32.\xffadd",
		strings.Repeat("i32.add", 1000), "i32." + strings.Repeat("a", 1<<20), "local.get" + strings.Repeat(" ", 1<<20),
	}
	for name := range names {
		l = append(l, name+" ", " "+name, "\t"+name, name+"\n", name+".", "."+name, name+name, name+"x", strings.ToUpper(name))
		for k := range len(name) {
			l = append(l, name[:k], name[k+1:], name[:k]+name[k+1:], name[:k]+" "+name[k:], name[:k]+"\x80"+name[k+1:], name[:k]+"_"+name[k+1:])
		}
	}
	for _, name := range l {
		want, there := names[name] // a name that was cut may be another one
		if code, ok := op.Code(name); code != want || ok != there {
			t.Errorf("Code(%.40q): %x %v, not %x %v", name, code, ok, want, there)
		}
	}
}

// TestOneToOne: P3.4.
func TestOneToOne(t *testing.T) {
	seen := map[string]int{}
	for _, code := range codes() {
		info, ok := op.Of(code)
		if !ok {
			continue
		}
		if other, twice := seen[info.Name]; twice && other != code {
			t.Errorf("%x and %x are both %s", other, code, info.Name)
		}
		seen[info.Name] = code
		if back, ok := op.Code(info.Name); back != code || !ok {
			t.Errorf("%x is %s, which is %x, %v", code, info.Name, back, ok)
		}
	}
	if len(seen) != 103 {
		t.Error(len(seen))
	}
}

// TestNumbers: P3.2: just the instructions of chapter 2 do with one number, and with two, what it says.
func TestNumbers(t *testing.T) {
	for code := range 256 {
		_, one := num.One(code, 1)
		_, two := num.Two(code, 1, 1)
		want := 0
		switch {
		case one != api.ErrKind:
			want = 1
		case two != api.ErrKind:
			want = 2
		}
		info, _ := op.Of(code)
		if got := len(info.Params); info.Shape == op.Plain && got != want || want > 0 && (info.Shape != op.Plain || len(info.Results) != 1) {
			t.Errorf("Of(%x): %+v", code, info)
		}
	}
}

// TestFloat: P3.3: what has to do with floats, and nothing else.
func TestFloat(t *testing.T) {
	l := runs(t, floats)
	for _, code := range codes() {
		if got, want := op.Float(code), slices.Contains(l, code); got != want {
			t.Errorf("Float(%x): %v", code, got)
		}
	}
}

// TestWhole: what has an Info, what has to do with floats, and what is neither, are all codes of WebAssembly 1.0, each once.
func TestWhole(t *testing.T) {
	none := runs(t, unused)
	for code := range 0xc0 {
		count := 0
		if _, ok := op.Of(code); ok {
			count++
		}
		if op.Float(code) {
			count++
		}
		if slices.Contains(none, code) {
			count++
		}
		if count != 1 {
			t.Errorf("code %x: %d", code, count)
		}
	}
}

// edges are numbers about those between which an instruction's may be.
func edges() []int64 {
	l := []int64{math.MinInt64, math.MaxInt64, math.MinInt64 + 1, math.MaxInt64 - 1, 5, 10, 40, 63, 64, 65, 97, 124, 125, 126, 127, 128, 191, 192, 255, 256}
	for _, n := range []int64{0, 1 << 31, 1 << 32, -1 << 31, -1 << 32, 1 << 33, 1 << 40, 1<<40 + 64, 1<<32 + 64, 1<<32 + 127, 1<<32 - 64, math.MinInt64 + 64} {
		l = append(l, n-2, n-1, n, n+1, n+2)
	}
	return l
}

// sorts are lists of labels.
func sorts() [][]int {
	return [][]int{
		nil, {}, {0}, {1<<32 - 1}, {0, 0}, {3, 2, 1, 0, 1<<32 - 1}, make([]int, 5, 9)[:0], make([]int, api.MaxList),
		{-1}, {1 << 32}, {0, -1}, {-1, 0}, {0, 1 << 32, 0}, {math.MinInt}, {math.MaxInt}, {0, 1<<40 + 1}, make([]int, api.MaxList+1), make([]int, 3*api.MaxList),
	}
}

// right is what P3.3 says of an instruction that has such an Info.
func right(info op.Info, i api.Instr) bool {
	below := func(n int64) bool { return n >= 0 && n < 4294967296 }
	labels := len(i.Labels) <= 4096
	for _, n := range i.Labels {
		labels = labels && below(int64(n))
	}
	a, b := i.A == 0, i.B == 0
	switch info.Shape {
	case op.Block:
		a = i.A == 0x40 || i.A == 0x7f || i.A == 0x7e
	case op.Label, op.Index, op.Labels:
		a = below(i.A)
	case op.Memory:
		a, b = below(i.A), below(i.B)
	case op.Const:
		a = info.Name == "i64.const" || i.A >= -2147483648 && i.A <= 2147483647
	}
	if info.Shape != op.Labels {
		labels = len(i.Labels) == 0
	}
	return a && b && labels
}

// TestRight: P3.3: each code, with numbers about the edges, and with labels.
func TestRight(t *testing.T) {
	l := edges()
	for code, info := range infos(t) {
		check := func(a, b int64, labels []int) {
			i := api.Instr{Op: code, A: a, B: b, Labels: labels}
			if got, want := op.Right(i), right(info, i); got != want {
				t.Errorf("Right(%s, %d, %d, %d labels, of them %d): %v", info.Name, a, b, len(labels), labels[:min(5, len(labels))], got)
			}
		}
		for _, a := range l {
			for _, b := range l {
				check(a, b, nil)
			}
			for _, labels := range sorts() {
				check(a, 0, labels)
			}
		}
		for _, labels := range sorts() {
			check(0, 1, labels)
			check(64, 0, labels)
		}
	}
}

// TestRightKnown: what the document names, one by one.
func TestRightKnown(t *testing.T) {
	full, over := make([]int, api.MaxList), make([]int, api.MaxList+1)
	for _, c := range []struct {
		name string
		i    api.Instr
		want bool
	}{
		{"end", api.Instr{Op: 0x0b}, true},
		{"end with A", api.Instr{Op: 0x0b, A: 1}, false},
		{"end with B", api.Instr{Op: 0x0b, B: 1}, false},
		{"end with an empty list", api.Instr{Op: 0x0b, Labels: []int{}}, true},
		{"end with a label", api.Instr{Op: 0x0b, Labels: []int{0}}, false},
		{"add with A", api.Instr{Op: 0x6a, A: -1}, false},
		{"block of nothing", api.Instr{Op: 0x02, A: 64}, true},
		{"loop of an i32", api.Instr{Op: 0x03, A: 127}, true},
		{"if of an i64", api.Instr{Op: 0x04, A: 126}, true},
		{"block of 0", api.Instr{Op: 0x02}, false},
		{"block of an f32", api.Instr{Op: 0x02, A: 125}, false},
		{"block of -64", api.Instr{Op: 0x02, A: -64}, false},
		{"block of 64, to 32 bits", api.Instr{Op: 0x02, A: 1<<32 + 64}, false},
		{"block with B", api.Instr{Op: 0x02, A: 64, B: 1}, false},
		{"br", api.Instr{Op: 0x0c, A: 1<<32 - 1}, true},
		{"br too far", api.Instr{Op: 0x0c, A: 1 << 32}, false},
		{"br_if below 0", api.Instr{Op: 0x0d, A: -1}, false},
		{"br with a label", api.Instr{Op: 0x0c, Labels: []int{0}}, false},
		{"br_table of none", api.Instr{Op: 0x0e}, true},
		{"br_table", api.Instr{Op: 0x0e, A: 1<<32 - 1, Labels: []int{1<<32 - 1, 0}}, true},
		{"br_table of MaxList", api.Instr{Op: 0x0e, Labels: full}, true},
		{"br_table of one more", api.Instr{Op: 0x0e, Labels: over}, false},
		{"br_table with a label below 0", api.Instr{Op: 0x0e, Labels: []int{0, 0, -1}}, false},
		{"br_table with a label too far", api.Instr{Op: 0x0e, Labels: []int{1 << 32}}, false},
		{"br_table with A too far", api.Instr{Op: 0x0e, A: 1 << 32, Labels: []int{0}}, false},
		{"br_table with B", api.Instr{Op: 0x0e, B: 1, Labels: []int{0}}, false},
		{"call", api.Instr{Op: 0x10, A: 1<<32 - 1}, true},
		{"call of 2^32", api.Instr{Op: 0x10, A: 1 << 32}, false},
		{"local.get below 0", api.Instr{Op: 0x20, A: -1}, false},
		{"global.set with B", api.Instr{Op: 0x24, B: 1}, false},
		{"load", api.Instr{Op: 0x28, A: 2, B: 1<<32 - 1}, true},
		{"load of any alignment", api.Instr{Op: 0x28, A: 1<<32 - 1}, true},
		{"load of too great an alignment", api.Instr{Op: 0x28, A: 1 << 32}, false},
		{"load of an alignment below 0", api.Instr{Op: 0x28, A: -1}, false},
		{"store with too great an offset", api.Instr{Op: 0x3e, B: 1 << 32}, false},
		{"store with an offset below 0", api.Instr{Op: 0x3e, B: -1}, false},
		{"memory.size", api.Instr{Op: 0x3f}, true},
		{"memory.size with A", api.Instr{Op: 0x3f, A: 1}, false},
		{"memory.grow with B", api.Instr{Op: 0x40, B: 1}, false},
		{"i32.const, the least", api.Instr{Op: 0x41, A: -1 << 31}, true},
		{"i32.const, the greatest", api.Instr{Op: 0x41, A: 1<<31 - 1}, true},
		{"i32.const, too small", api.Instr{Op: 0x41, A: -1<<31 - 1}, false},
		{"i32.const, too great", api.Instr{Op: 0x41, A: 1 << 31}, false},
		{"i32.const, without a sign", api.Instr{Op: 0x41, A: 1<<32 - 1}, false},
		{"i64.const, the least", api.Instr{Op: 0x42, A: math.MinInt64}, true},
		{"i64.const, the greatest", api.Instr{Op: 0x42, A: math.MaxInt64}, true},
		{"i64.const with B", api.Instr{Op: 0x42, B: 1}, false},
		{"call_indirect", api.Instr{Op: 0x11}, false},
		{"f32.const", api.Instr{Op: 0x43}, false},
		{"no code", api.Instr{Op: -1}, false},
	} {
		if got := op.Right(c.i); got != c.want {
			t.Errorf("%s: %v", c.name, got)
		}
	}
}

// TestRightOthers: no other code is right, with whatever numbers.
func TestRightOthers(t *testing.T) {
	m := infos(t)
	for _, code := range codes() {
		if _, there := m[code]; there {
			continue
		}
		for _, n := range []int64{0, 1, 64, 127} {
			for _, i := range []api.Instr{{Op: code, A: n}, {Op: code, B: n}, {Op: code, A: n, B: n}, {Op: code, A: n, Labels: []int{0}}} {
				if op.Right(i) {
					t.Errorf("Right(%+v)", i)
				}
			}
		}
	}
}

// TestRightKeeps: what is handed in is not written into, nor what stands behind it.
func TestRightKeeps(t *testing.T) {
	for code := range 256 {
		room := []int{3, -1, 1 << 40, 7, 8}
		op.Right(api.Instr{Op: code, A: 64, Labels: room[:3]})
		if !slices.Equal(room, []int{3, -1, 1 << 40, 7, 8}) {
			t.Fatal(code, room)
		}
	}
}

// TestSame: the calls keep nothing: what was asked ahead of them, or is asked beside them, changes no answer.
func TestSame(t *testing.T) {
	m := infos(t)
	var wait sync.WaitGroup
	for range 8 {
		wait.Go(func() {
			for range 20 {
				for k := range 256 {
					code := k * 37 % 256
					info, ok := op.Of(code)
					back, named := op.Code(info.Name)
					if want, there := m[code]; info != want || ok != there || named != there || there && back != code {
						t.Errorf("%x: %+v %v, and back %x %v", code, info, ok, back, named)
					}
					if i := (api.Instr{Op: code, A: 64}); ok && op.Right(i) != right(info, i) {
						t.Errorf("Right(%+v)", i)
					}
				}
			}
		})
	}
	wait.Wait()
}
