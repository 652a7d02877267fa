package dec_test

import (
	"encoding/hex"
	"math"
	"reflect"
	"slices"
	"strconv"
	"strings"
	"sync"
	"testing"
	"unsafe"

	"tuckmill/api"
	"tuckmill/dec"
	"tuckmill/enc"
	"tuckmill/leb"
	"tuckmill/module"
	"tuckmill/op"
)

// bytes are those of digits in pairs, spaces among them.
func bytes(t testing.TB, digits string) string {
	t.Helper()
	s, err := hex.DecodeString(strings.Join(strings.Fields(digits), ""))
	if err != nil {
		t.Fatal(err, digits)
	}
	return string(s)
}

// head is what all modules begin with, in digits.
const head = "00 61 73 6d 01 00 00 00 "

// number is the digits of a number as it is written.
func number(n int) string { return hex.EncodeToString([]byte(leb.PutU(uint64(n)))) + " " }

// text is the digits of bytes, told by digits, behind how many they are.
func text(digits string) string {
	return number(len(strings.Join(strings.Fields(digits), ""))/2) + digits + " "
}

// section is the digits of a section of a number.
func section(n int, digits string) string { return hex.EncodeToString([]byte{byte(n)}) + text(digits) }

// same tells whether two instructions are.
func same(i, j api.Instr) bool {
	return i.Op == j.Op && i.A == j.A && i.B == j.B && slices.Equal(i.Labels, j.Labels)
}

// zero tells whether nothing but an error was answered.
func zero(m api.Module) bool { return reflect.DeepEqual(m, api.Module{}) }

// wrong fails, if a text is not refused with an error, and with it alone.
func wrong(t *testing.T, name, s string, want api.Errno) {
	t.Helper()
	if m, e := dec.Module(s); e != want || !zero(m) {
		t.Errorf("Module, %s: %.200v %d, not %d, of %.200x", name, m, e, want, s)
	}
}

// TestExample: the chapter's.
func TestExample(t *testing.T) {
	wrong(t, "nothing", "", api.ErrForm)
}

// TestInstrKnown: P6.1, case by case.
func TestInstrKnown(t *testing.T) {
	for _, c := range []struct {
		s    string
		i    api.Instr
		next int
		e    api.Errno
	}{
		{"00", api.Instr{Op: 0x00}, 1, 0},
		{"01 ff", api.Instr{Op: 0x01}, 1, 0},
		{"05", api.Instr{Op: 0x05}, 1, 0},
		{"0b 0b", api.Instr{Op: 0x0b}, 1, 0},
		{"0f", api.Instr{Op: 0x0f}, 1, 0},
		{"1a", api.Instr{Op: 0x1a}, 1, 0},
		{"1b", api.Instr{Op: 0x1b}, 1, 0},
		{"6a", api.Instr{Op: 0x6a}, 1, 0},
		{"ad 80", api.Instr{Op: 0xad}, 1, 0},
		{"02 40", api.Instr{Op: 0x02, A: 64}, 2, 0},
		{"03 7f", api.Instr{Op: 0x03, A: 127}, 2, 0},
		{"04 7e 05", api.Instr{Op: 0x04, A: 126}, 2, 0},
		{"02 7d", api.Instr{}, 0, api.ErrKind},
		{"03 7c", api.Instr{}, 0, api.ErrKind},
		{"04 7b", api.Instr{}, 0, api.ErrForm},
		{"02 00", api.Instr{}, 0, api.ErrForm},
		{"02 c0 7f", api.Instr{}, 0, api.ErrForm}, // the number -64, in more than a byte
		{"02 ff 00", api.Instr{}, 0, api.ErrForm},
		{"02", api.Instr{}, 0, api.ErrForm},
		{"0c 00", api.Instr{Op: 0x0c}, 2, 0},
		{"0d 80 01", api.Instr{Op: 0x0d, A: 128}, 3, 0},
		{"0c ff ff ff ff 0f", api.Instr{Op: 0x0c, A: 1<<32 - 1}, 6, 0},
		{"0c ff ff ff ff 1f", api.Instr{}, 0, api.ErrForm},
		{"0c 80 80 80 80 80 00", api.Instr{}, 0, api.ErrForm},
		{"0c 81 80 80 80 00 00", api.Instr{Op: 0x0c, A: 1}, 6, 0}, // longer than it has to be
		{"0c", api.Instr{}, 0, api.ErrForm},
		{"0c 80", api.Instr{}, 0, api.ErrForm},
		{"0e 00 00", api.Instr{Op: 0x0e}, 3, 0},
		{"0e 00 ac 02", api.Instr{Op: 0x0e, A: 300}, 4, 0},
		{"0e 01 07 05", api.Instr{Op: 0x0e, A: 5, Labels: []int{7}}, 4, 0},
		{"0e 03 00 80 01 ff ff ff ff 0f 40 00", api.Instr{Op: 0x0e, A: 64, Labels: []int{0, 128, 1<<32 - 1}}, 11, 0},
		{"0e 80 20" + strings.Repeat("00", 4096) + "01", api.Instr{Op: 0x0e, A: 1, Labels: make([]int, 4096)}, 4100, 0},
		{"0e 81 20" + strings.Repeat("00", 4097) + "01", api.Instr{}, 0, api.ErrLong},
		{"0e 81 20", api.Instr{}, 0, api.ErrLong},
		{"0e ff ff ff ff 0f", api.Instr{}, 0, api.ErrLong},
		{"0e ff ff ff ff 1f", api.Instr{}, 0, api.ErrForm},
		{"0e 80 20", api.Instr{}, 0, api.ErrForm},
		{"0e 02 00", api.Instr{}, 0, api.ErrForm},
		{"0e 02 00 00", api.Instr{}, 0, api.ErrForm},
		{"0e 02 80 80 80 80 10 00 00", api.Instr{}, 0, api.ErrForm},
		{"10 40", api.Instr{Op: 0x10, A: 64}, 2, 0},
		{"20 e5 8e 26", api.Instr{Op: 0x20, A: 624485}, 4, 0},
		{"23 00", api.Instr{Op: 0x23}, 2, 0},
		{"24 80 80 80 80 08", api.Instr{Op: 0x24, A: 1 << 31}, 6, 0},
		{"28 00 00", api.Instr{Op: 0x28}, 3, 0},
		{"28 02 08 00", api.Instr{Op: 0x28, A: 2, B: 8}, 3, 0},
		{"37 03 80 80 40", api.Instr{Op: 0x37, A: 3, B: 1 << 20}, 5, 0},
		{"3e ff ff ff ff 0f fe ff ff ff 0f", api.Instr{Op: 0x3e, A: 1<<32 - 1, B: 1<<32 - 2}, 11, 0},
		{"29 03", api.Instr{}, 0, api.ErrForm},
		{"29", api.Instr{}, 0, api.ErrForm},
		{"3f 00", api.Instr{Op: 0x3f}, 2, 0},
		{"40 00", api.Instr{Op: 0x40}, 2, 0},
		{"3f 01", api.Instr{}, 0, api.ErrForm},
		{"40 80 00", api.Instr{}, 0, api.ErrForm}, // a byte, not a number
		{"40", api.Instr{}, 0, api.ErrForm},
		{"41 00", api.Instr{Op: 0x41}, 2, 0},
		{"41 40", api.Instr{Op: 0x41, A: -64}, 2, 0},
		{"41 c0 00", api.Instr{Op: 0x41, A: 64}, 3, 0},
		{"41 c0 bb 78", api.Instr{Op: 0x41, A: -123456}, 4, 0},
		{"41 ff ff ff ff 7f", api.Instr{Op: 0x41, A: -1}, 6, 0},
		{"41 ff ff ff ff 07", api.Instr{Op: 0x41, A: 1<<31 - 1}, 6, 0},
		{"41 80 80 80 80 78", api.Instr{Op: 0x41, A: -1 << 31}, 6, 0},
		{"41 80 80 80 80 08", api.Instr{}, 0, api.ErrForm},
		{"41 80 80 80 80 80 00", api.Instr{}, 0, api.ErrForm},
		{"41", api.Instr{}, 0, api.ErrForm},
		{"42 7f", api.Instr{Op: 0x42, A: -1}, 2, 0},
		{"42 80 80 80 80 08", api.Instr{Op: 0x42, A: 1 << 31}, 6, 0},
		{"42 ff ff ff ff ff ff ff ff ff 00", api.Instr{Op: 0x42, A: math.MaxInt64}, 11, 0},
		{"42 80 80 80 80 80 80 80 80 80 7f", api.Instr{Op: 0x42, A: math.MinInt64}, 11, 0},
		{"42 80 80 80 80 80 80 80 80 80 01", api.Instr{}, 0, api.ErrForm},
		{"42 80", api.Instr{}, 0, api.ErrForm},
		{"11", api.Instr{}, 0, api.ErrKind},
		{"11 00 00", api.Instr{}, 0, api.ErrKind},
		{"2a 02 00", api.Instr{}, 0, api.ErrKind},
		{"39", api.Instr{}, 0, api.ErrKind},
		{"43 00 00 80 3f", api.Instr{}, 0, api.ErrKind},
		{"92", api.Instr{}, 0, api.ErrKind},
		{"bf", api.Instr{}, 0, api.ErrKind},
		{"06", api.Instr{}, 0, api.ErrForm},
		{"12 00", api.Instr{}, 0, api.ErrForm},
		{"1c 01 7f", api.Instr{}, 0, api.ErrForm},
		{"c0", api.Instr{}, 0, api.ErrForm},
		{"ff", api.Instr{}, 0, api.ErrForm},
		{"", api.Instr{}, 0, api.ErrForm},
	} {
		for _, before := range []string{"", "0b", "0e 80 ff"} {
			ahead, next := bytes(t, before), 0
			if c.e == api.OK {
				next = len(ahead) + c.next
			}
			i, at, e := dec.Instr(ahead+bytes(t, c.s), len(ahead))
			if !same(i, c.i) || at != next || e != c.e {
				t.Errorf("Instr(%.60s): %.60v %d %d", c.s, i, at, e)
			}
			if e != api.OK && i.Labels != nil {
				t.Errorf("Instr(%.60s): labels beside an error", c.s)
			}
		}
	}
}

// TestInstrPlace: P6.1: which places are refused, and with which error, whatever stands in the text.
func TestInstrPlace(t *testing.T) {
	for _, s := range []string{"", "\x01", "\x11", "\x41\x80\x01", "\x0e\x81\x20"} {
		for _, at := range []int{math.MinInt, math.MinInt + 1, -1 << 32, -2, -1, len(s) + 1, len(s) + 2, 1 << 32, math.MaxInt} {
			if i, next, e := dec.Instr(s, at); !same(i, api.Instr{}) || next != 0 || e != api.ErrArg {
				t.Errorf("Instr(%x, %d): %+v %d %d", s, at, i, next, e)
			}
		}
		if i, next, e := dec.Instr(s, len(s)); !same(i, api.Instr{}) || next != 0 || e != api.ErrForm {
			t.Errorf("Instr(%x, %d): %+v %d %d", s, len(s), i, next, e)
		}
	}
}

// TestInstrCodes: P6.1: each byte that may stand first, with no more of it behind than bytes 0, or 64.
func TestInstrCodes(t *testing.T) {
	seen := map[api.Errno]int{}
	for code := range 256 {
		info, ok := op.Of(code)
		want, long := api.OK, map[int]int{op.Plain: 1, op.Labels: 3, op.Memory: 3}[info.Shape]
		switch {
		case code == 17 || op.Float(code):
			want, long = api.ErrKind, 0
		case !ok:
			want, long = api.ErrForm, 0
		case long == 0:
			long = 2
		}
		s := string([]byte{byte(code)}) + "\x00\x00\x00\x00"
		if info.Shape == op.Block {
			s = s[:1] + "\x40"
		}
		i, next, e := dec.Instr(s, 0)
		if e != want || next != long || e == api.OK && i.Op != code || e != api.OK && i.Op != 0 {
			t.Errorf("%x: %+v %d %d", code, i, next, e)
		}
		seen[e]++
		for cut := range long {
			if i, next, e := dec.Instr(s[:cut], 0); e != api.ErrForm || next != 0 || !same(i, api.Instr{}) {
				t.Errorf("%x, %d bytes: %+v %d %d", code, cut, i, next, e)
			}
		}
	}
	if seen[api.OK] != 103 || seen[api.ErrKind] != 1+6+12+28+4+18 {
		t.Error(seen)
	}
}

// TestInstrRound: P6.3: each code, with numbers of all sorts: what was written is read as it was, wherever it stands, and nothing of it is missed.
func TestInstrRound(t *testing.T) {
	sorts := []int64{math.MinInt64, -1 << 31, -65, -64, -1, 0, 1, 2, 63, 64, 126, 127, 128, 16383, 16384, 1<<31 - 1, 1 << 31, 1<<32 - 1, 1 << 32, math.MaxInt64}
	told := map[int]int{}
	for c := range 256 {
		for _, a := range sorts {
			for _, b := range sorts {
				for _, labels := range [][]int{nil, {0}, {3, 0, 1<<32 - 1}} {
					i := api.Instr{Op: c, A: a, B: b, Labels: labels}
					s, ok := enc.Instr(i)
					if !ok {
						continue
					}
					told[c]++
					back, next, e := dec.Instr("\x02"+s+"\x80\x41", 1)
					if !same(i, back) || next != 1+len(s) || e != api.OK {
						t.Errorf("%+v is written as %x, which is %+v %d %d", i, s, back, next, e)
					}
					for cut := range s {
						if back, next, e := dec.Instr(s[:cut], 0); e != api.ErrForm || next != 0 || !same(back, api.Instr{}) {
							t.Errorf("Instr(%x): %+v %d %d", s[:cut], back, next, e)
						}
					}
				}
			}
		}
	}
	if len(told) != 103 {
		t.Error(len(told))
	}
}

// TestModuleKnown: P6.2, section by section, worked out by hand.
func TestModuleKnown(t *testing.T) {
	end := []api.Instr{{Op: 0x0b}}
	for _, c := range []struct {
		name string
		s    string // behind the head
		want api.Module
	}{
		{"nothing", "", api.Module{Start: -1}},
		{"empty lists", "01 01 00 03 01 00 05 01 00 06 01 00 07 01 00 0a 01 00 0b 01 00", api.Module{Start: -1}},
		{"numbers longer than they have to be", "01 82 80 80 80 00 80 00 0b 81 00 00", api.Module{Start: -1}},
		{"a section of any", "00 01 00", api.Module{Start: -1}},
		{"a section of any, with a name and bytes", "00 08 04 6e 61 6d 65 ff 00 80", api.Module{Start: -1}},
		{"sections of any all about", "00 01 00 00 02 01 61 01 01 00 00 01 00 08 01 05 00 03 01 62 01", api.Module{Start: 5}},
		{"a type of nothing", "01 04 01 60 00 00", api.Module{Types: []api.FuncType{{}}, Start: -1}},
		{"types", "01 0c 02 60 03 7f 7e 7f 01 7e 60 00 01 7f", api.Module{Types: []api.FuncType{{Params: "\x7f\x7e\x7f", Results: "\x7e"}, {Results: "\x7f"}}, Start: -1}},
		{"a function", "03 02 01 00 0a 04 01 02 00 0b", api.Module{Funcs: []api.Func{{Code: end}}, Start: -1}},
		{"functions", "03 04 02 c8 01 03 0a 0c 02 05 00 41 7f 1a 0b 04 01 01 7f 0b", api.Module{Funcs: []api.Func{{Type: 200, Code: []api.Instr{{Op: 0x41, A: -1}, {Op: 0x1a}, {Op: 0x0b}}}, {Type: 3, Locals: "\x7f", Code: end}}, Start: -1}},
		{"a great Type", "03 06 01 ff ff ff ff 0f 0a 04 01 02 00 0b", api.Module{Funcs: []api.Func{{Type: 1<<32 - 1, Code: end}}, Start: -1}},
		{"locals", "03 02 01 00 0a 0c 01 0a 04 02 7f 01 7e 01 7f 03 7e 0b", api.Module{Funcs: []api.Func{{Locals: "\x7f\x7f\x7e\x7f\x7e\x7e\x7e", Code: end}}, Start: -1}},
		{"locals in runs that are none, or might be one", "03 02 01 00 0a 0e 01 0c 05 00 7e 01 7f 01 7f 00 7f 01 7e 0b", api.Module{Funcs: []api.Func{{Locals: "\x7f\x7f\x7e", Code: end}}, Start: -1}},
		{"a long run", "03 02 01 00 0a 07 01 05 01 80 20 7e 0b", api.Module{Funcs: []api.Func{{Locals: strings.Repeat("\x7e", 4096), Code: end}}, Start: -1}},
		{"blocks", "03 02 01 00 0a 10 01 0e 00 02 40 41 05 04 7f 05 03 7e 0b 0b 0b 0b", api.Module{Funcs: []api.Func{{Code: []api.Instr{{Op: 0x02, A: 64}, {Op: 0x41, A: 5}, {Op: 0x04, A: 127}, {Op: 0x05}, {Op: 0x03, A: 126}, {Op: 0x0b}, {Op: 0x0b}, {Op: 0x0b}, {Op: 0x0b}}}}, Start: -1}},
		{"ifs in both ways of one", "03 02 01 00 0a 10 01 0e 00 04 40 04 40 05 0b 05 04 40 05 0b 0b 0b", api.Module{Funcs: []api.Func{{Code: []api.Instr{{Op: 4, A: 64}, {Op: 4, A: 64}, {Op: 5}, {Op: 11}, {Op: 5}, {Op: 4, A: 64}, {Op: 5}, {Op: 11}, {Op: 11}, {Op: 11}}}}, Start: -1}},
		{"a memory without Max", "05 03 01 00 01", api.Module{Memory: []api.Memory{{Min: 1, Max: -1}}, Start: -1}},
		{"a memory with Max 0", "05 04 01 01 00 00", api.Module{Memory: []api.Memory{{}}, Start: -1}},
		{"memories", "05 14 03 01 c8 01 80 80 04 00 00 01 ff ff ff ff 0f ff ff ff ff 0f", api.Module{Memory: []api.Memory{{Min: 200, Max: 65536}, {Min: 0, Max: -1}, {Min: 1<<32 - 1, Max: 1<<32 - 1}}, Start: -1}},
		{"globals", "06 1f 04 7f 01 41 7b 0b 7e 00 42 c0 00 0b 7f 00 41 00 0b 7e 01 42 80 80 80 80 80 80 80 80 80 7f 0b", api.Module{Globals: []api.Global{{Type: 127, Mut: true, Init: -5}, {Type: 126, Init: 64}, {Type: 127}, {Type: 126, Mut: true, Init: math.MinInt64}}, Start: -1}},
		{"exports", "07 10 03 03 72 75 6e 00 80 01 00 02 00 02 c3 a9 03 01", api.Module{Exports: []api.Export{{Name: "run", Kind: 0, Index: 128}, {Name: "", Kind: 2}, {Name: "\u00e9", Kind: 3, Index: 1}}, Start: -1}},
		{"two exports of one name", "07 09 02 01 61 00 00 01 61 00 00", api.Module{Exports: []api.Export{{Name: "a"}, {Name: "a"}}, Start: -1}},
		{"Start 0", "08 01 00", api.Module{}},
		{"Start", "08 05 ff ff ff ff 0f", api.Module{Start: 1<<32 - 1}},
		{"data", "0b 19 03 00 41 c0 00 0b 03 61 ff 00 00 41 7f 0b 00 00 41 80 80 80 80 78 0b 01 62", api.Module{Data: []api.Data{{Offset: 64, Bytes: "a\xff\x00"}, {Offset: -1}, {Offset: -1 << 31, Bytes: "b"}}, Start: -1}},
		{"data for a memory 0 that is written long", "0b 08 01 80 00 41 01 0b 01 7a", api.Module{Data: []api.Data{{Offset: 1, Bytes: "z"}}, Start: -1}},
		{"sections left out", "01 04 01 60 00 00 05 03 01 00 01 0b 06 01 00 41 00 0b 00", api.Module{Types: []api.FuncType{{}}, Memory: []api.Memory{{Min: 1, Max: -1}}, Data: []api.Data{{}}, Start: -1}},
		{"all of them", "01 09 02 60 01 7f 01 7f 60 00 00 03 03 02 00 01 05 04 01 01 01 02 06 06 01 7f 01 41 01 0b 07 05 01 01 66 00 00 08 01 01" +
			"0a 11 02 09 01 02 7e 20 00 28 02 08 0b 05 00 3f 00 1a 0b 0b 08 01 00 41 10 0b 02 68 69", whole()},
	} {
		m, e := dec.Module(bytes(t, head+c.s))
		if !module.Same(m, c.want) || e != api.OK {
			t.Errorf("Module, %s: %.300v %d", c.name, m, e)
		}
	}
}

// whole is a module with something in each list.
func whole() api.Module {
	return api.Module{
		Types:   []api.FuncType{{Params: "\x7f", Results: "\x7f"}, {}},
		Funcs:   []api.Func{{Locals: "\x7e\x7e", Code: []api.Instr{{Op: 0x20}, {Op: 0x28, A: 2, B: 8}, {Op: 0x0b}}}, {Type: 1, Code: []api.Instr{{Op: 0x3f}, {Op: 0x1a}, {Op: 0x0b}}}},
		Memory:  []api.Memory{{Min: 1, Max: 2}},
		Globals: []api.Global{{Type: 127, Mut: true, Init: 1}},
		Exports: []api.Export{{Name: "f"}},
		Start:   1,
		Data:    []api.Data{{Offset: 16, Bytes: "hi"}},
	}
}

// fault is a text that is no module, and why.
type fault struct {
	name string
	s    string // behind the head
	e    api.Errno
}

// sectionFaults have to do with how sections stand.
func sectionFaults() []fault {
	return []fault{
		{"imports", "02 01 00", api.ErrKind},
		{"a table", "04 04 01 70 00 00", api.ErrKind},
		{"elements", "09 01 00", api.ErrKind},
		{"imports without a text", "02", api.ErrKind},
		{"a table with too long a text", "04 05 00", api.ErrKind},
		{"elements with a number that is none", "09 ff ff ff ff ff", api.ErrKind},
		{"imports where they may not stand", "03 01 00 02 01 00", api.ErrKind},
		{"elements behind data", "0b 01 00 09 01 00", api.ErrKind},
		{"section 12", "0c 01 00", api.ErrForm},
		{"section 128", "80 00 01 00", api.ErrForm},
		{"section 255", "ff", api.ErrForm},
		{"types twice", "01 01 00 01 01 00", api.ErrForm},
		{"data twice", "0b 01 00 0b 01 00", api.ErrForm},
		{"types behind functions", "03 01 00 01 01 00", api.ErrForm},
		{"codes behind data", "0b 01 00 0a 01 00", api.ErrForm},
		{"types twice, any between", "01 01 00 00 01 00 01 01 00", api.ErrForm},
		{"globals behind exports, any between", "07 01 00 00 01 00 06 01 00", api.ErrForm},
		{"functions behind exports, though behind types too", "01 01 00 07 01 00 03 01 00", api.ErrForm},
		{"no text", "01", api.ErrForm},
		{"no whole text", "01 02 00", api.ErrForm},
		{"no whole number ahead of a text", "01 80", api.ErrForm},
		{"a far too long text", "01 ff ff ff ff 0f 00", api.ErrForm},
		{"too long a number ahead of a text", "01 81 80 80 80 80 00 00", api.ErrForm},
		{"something behind types", "01 02 00 00", api.ErrForm},
		{"something behind functions", "03 02 00 00", api.ErrForm},
		{"something behind memories", "05 02 00 00", api.ErrForm},
		{"something behind globals", "06 02 00 00", api.ErrForm},
		{"something behind exports", "07 02 00 00", api.ErrForm},
		{"something behind Start", "08 02 00 00", api.ErrForm},
		{"something behind codes", "0a 02 00 00", api.ErrForm},
		{"something behind data", "0b 02 00 00", api.ErrForm},
		{"nothing in types", "01 00", api.ErrForm},
		{"nothing in Start", "08 00", api.ErrForm},
		{"nothing in any", "00 00", api.ErrForm},
		{"a name that is none", "00 02 01 ff", api.ErrForm},
		{"half a character in a name", "00 02 01 c3", api.ErrForm},
		{"a half of a pair in a name", "00 04 03 ed a0 80", api.ErrForm},
		{"a name that goes on behind its section", "00 02 02 61 62 00", api.ErrForm},
		{"a number that goes on behind its section", "08 01 80 01 00", api.ErrForm},
		{"a list that goes on behind its section", "03 02 02 00 00 0a 01 00", api.ErrForm},
		{"a byte behind all", "08 01 00 0b", api.ErrForm},
	}
}

// listFaults have to do with what stands in the sections of lists, but codes.
func listFaults() []fault {
	return []fault{
		{"no function's type", section(1, "01 61 00 00"), api.ErrForm},
		{"a type of no value type", section(1, "01 60 01 40 00"), api.ErrForm},
		{"a type of floats", section(1, "01 60 01 7d 00"), api.ErrKind},
		{"a type of floats of 64 bits", section(1, "01 60 02 7f 7c 00"), api.ErrKind},
		{"a result of floats", section(1, "01 60 00 01 7d"), api.ErrKind},
		{"a result that is none", section(1, "01 60 00 01 7b"), api.ErrForm},
		{"two results", section(1, "01 60 00 02 7f 7f"), api.ErrKind},
		{"two results, the second one none", section(1, "01 60 00 02 7f 40"), api.ErrForm},
		{"two results, the second one missing", section(1, "01 60 00 02 7f"), api.ErrForm},
		{"two results, and no type behind", section(1, "02 60 00 02 7f 7f 61"), api.ErrKind},
		{"a type without results", section(1, "01 60 00"), api.ErrForm},
		{"fewer types than told", section(1, "02 60 00 00"), api.ErrForm},
		{"a function's type that goes too far", section(3, "01 80 80 80 80 10"), api.ErrForm},
		{"a memory that begins with 2", section(5, "01 02 00 00"), api.ErrForm},
		{"a memory without Min", section(5, "01 00"), api.ErrForm},
		{"a memory without the Max it tells of", section(5, "01 01 00"), api.ErrForm},
		{"a memory with a Max it does not tell of", section(5, "01 00 00 00"), api.ErrForm},
		{"a global of floats", section(6, "01 7d 00 43 00 00 00 00 0b"), api.ErrKind},
		{"a global of nothing", section(6, "01 40 00 41 00 0b"), api.ErrForm},
		{"a global that begins with 2", section(6, "01 7f 02 41 00 0b"), api.ErrForm},
		{"a global that begins with 2, of floats", section(6, "01 7f 02 43 00 0b"), api.ErrForm},
		{"a global of a global", section(6, "01 7f 00 23 00 0b"), api.ErrKind},
		{"a global of a float", section(6, "01 7f 00 43 00 00 00 00 0b"), api.ErrKind},
		{"a global of a float of 64 bits", section(6, "01 7e 00 44 00 00 00 00 00 00 00 00 0b"), api.ErrKind},
		{"a global of a float, cut", section(6, "01 7f 00 43"), api.ErrKind},
		{"a global of a local", section(6, "01 7f 00 20 00 0b"), api.ErrForm},
		{"a global of an end", section(6, "01 7f 00 0b"), api.ErrForm},
		{"a global of 32 bits, with 64", section(6, "01 7f 00 42 00 0b"), api.ErrType},
		{"a global of 64 bits, with 32", section(6, "01 7e 01 41 00 0b"), api.ErrType},
		{"a global of the wrong type, and no end", section(6, "01 7f 00 42 00 01"), api.ErrType},
		{"a global of the wrong type, cut behind it", section(6, "01 7f 00 42 00"), api.ErrType},
		{"a global of the wrong type, cut in its number", section(6, "01 7f 00 42 80"), api.ErrForm},
		{"a global of the wrong type, with no room", section(6, "01 7e 00 41 80 80 80 80 08 0b"), api.ErrForm},
		{"a global with no room", section(6, "01 7f 00 41 80 80 80 80 08 0b"), api.ErrForm},
		{"a global with no end", section(6, "01 7f 00 41 00 01"), api.ErrForm},
		{"a global of two consts", section(6, "01 7f 00 41 00 41 00 0b"), api.ErrForm},
		{"an export of a table", section(7, "01 01 61 01 00"), api.ErrKind},
		{"an export of a table, cut", section(7, "01 01 61 01"), api.ErrKind},
		{"an export of kind 4", section(7, "01 01 61 04 00"), api.ErrForm},
		{"an export's name that is none", section(7, "01 01 80 00 00"), api.ErrForm},
		{"an export's name that is none, of a table", section(7, "01 01 80 01 00"), api.ErrForm},
		{"an export's name that is cut", section(7, "01 05 61 00 00"), api.ErrForm},
		{"an export without Index", section(7, "01 01 61 00"), api.ErrForm},
		{"an export's Index that goes too far", section(7, "01 01 61 00 ff ff ff ff 1f"), api.ErrForm},
		{"a Start that goes too far", section(8, "ff ff ff ff 1f"), api.ErrForm},
		{"data for memory 1", section(11, "01 01 41 00 0b 00"), api.ErrKind},
		{"data for a great memory, cut", section(11, "01 ff ff ff ff 0f"), api.ErrKind},
		{"data for a memory that is no number", section(11, "01 ff ff ff ff 1f"), api.ErrForm},
		{"data at a number of 64 bits", section(11, "01 00 42 00 0b 00"), api.ErrType},
		{"data at a global", section(11, "01 00 23 00 0b 00"), api.ErrKind},
		{"data without bytes", section(11, "01 00 41 00 0b"), api.ErrForm},
		{"data with fewer bytes", section(11, "01 00 41 00 0b 02 61"), api.ErrForm},
		{"data with more bytes", section(11, "01 00 41 00 0b 01 61 62"), api.ErrForm},
	}
}

// bodied is the digits of a function of type 0, and of its code, of these.
func bodied(digits string) string {
	return section(3, "01 00") + section(10, "01"+text(digits))
}

// codeFaults have to do with functions and their codes.
func codeFaults() []fault {
	return []fault{
		{"no code", section(3, "01 00"), api.ErrForm},
		{"no code, in a list", section(3, "01 00") + section(10, "00"), api.ErrForm},
		{"no function", section(10, "01 02 00 0b"), api.ErrForm},
		{"no function, in a list", section(3, "00") + section(10, "01 02 00 0b"), api.ErrForm},
		{"more codes", section(3, "01 00") + section(10, "02 02 00 0b 02 00 0b"), api.ErrForm},
		{"fewer codes", section(3, "02 00 00") + section(10, "01 02 00 0b"), api.ErrForm},
		{"no function, but a float", section(10, "01 03 00 92 0b"), api.ErrKind},
		{"no code, but elements", section(3, "01 00") + "09", api.ErrKind},
		{"more codes, and data that are none", section(10, "01 02 00 0b") + section(11, "01 01"), api.ErrKind},
		{"a code of nothing", bodied(""), api.ErrForm},
		{"a code without instructions", bodied("00"), api.ErrForm},
		{"a code without an end", bodied("00 01"), api.ErrForm},
		{"a code with a block without an end", bodied("00 02 40 0b"), api.ErrForm},
		{"a code with something behind", bodied("00 0b 01"), api.ErrForm},
		{"a code with an end too many", bodied("00 0b 0b"), api.ErrForm},
		{"a code with a float behind its end", bodied("00 0b 92"), api.ErrForm},
		{"a code that goes on behind its text", section(3, "01 00") + section(10, "01 02 00 41 00 0b"), api.ErrForm},
		{"a code whose text goes on behind its section", section(3, "01 00") + "0a 03 01 02 00 0b", api.ErrForm},
		{"a code that ends in a number", bodied("00 41 80"), api.ErrForm},
		{"an else", bodied("00 05 0b"), api.ErrForm},
		{"an else in a block", bodied("00 02 40 05 0b 0b"), api.ErrForm},
		{"an else in a loop in an if", bodied("00 04 40 03 40 05 0b 0b 0b"), api.ErrForm},
		{"a second else", bodied("00 04 40 05 05 0b 0b"), api.ErrForm},
		{"an else behind an if", bodied("00 04 40 0b 05 0b"), api.ErrForm},
		{"an else, then a float", bodied("00 05 92"), api.ErrForm},
		{"a float, then an else", bodied("00 92 05"), api.ErrKind},
		{"call_indirect", bodied("00 11 00 00 0b"), api.ErrKind},
		{"no instruction", bodied("00 06 0b"), api.ErrForm},
		{"a block of floats", bodied("00 02 7c 0b 0b"), api.ErrKind},
		{"too many labels", bodied("00 0e 81 20"), api.ErrLong},
		{"a local of floats", bodied("01 01 7d 0b"), api.ErrKind},
		{"a local of nothing", bodied("01 01 40 0b"), api.ErrForm},
		{"no local of floats", bodied("01 00 7c 0b"), api.ErrKind},
		{"locals that are cut", bodied("01 01"), api.ErrForm},
		{"fewer runs of locals", bodied("02 01 7f 0b"), api.ErrForm},
		{"too many locals", bodied("01 81 20 7f 0b"), api.ErrLong},
		{"far too many locals", bodied("01 ff ff ff ff 0f 7e 0b"), api.ErrLong},
		{"too many locals in two runs", bodied("02 80 20 7f 01 7e 0b"), api.ErrLong},
		{"too many locals in runs that would wrap", bodied("03 01 7f ff ff ff ff 0f 7f 01 7f 0b"), api.ErrLong},
		{"too many locals, then a local of floats", bodied("02 81 20 7f 01 7d 0b"), api.ErrLong},
		{"a local of floats, then too many", bodied("02 01 7d 81 20 7f 0b"), api.ErrKind},
		{"too many locals, of floats", bodied("01 81 20 7d 0b"), api.ErrKind},
		{"locals of no number", bodied("01 ff ff ff ff 1f 7f 0b"), api.ErrForm},
	}
}

// TestModuleFaults: P6.2: each thing that may be wrong, told by its error, and with nothing beside it.
func TestModuleFaults(t *testing.T) {
	for _, f := range slices.Concat(sectionFaults(), listFaults(), codeFaults()) {
		wrong(t, f.name, bytes(t, head+f.s), f.e)
		if !strings.HasPrefix(f.s, "01") {
			wrong(t, f.name+", behind a type", bytes(t, head+section(1, "01 60 00 01 7f")+f.s), f.e)
		}
	}
}

// TestModuleFirst: P6.2: of two things that are wrong the one that stands ahead is told.
func TestModuleFirst(t *testing.T) {
	l := slices.Concat(listFaults(), codeFaults())
	for _, f := range l {
		if strings.HasPrefix(f.s, "0b") || strings.HasPrefix(f.s, "03") || strings.HasPrefix(f.s, "0a") {
			continue
		}
		for _, tail := range []string{"0b 06 01 00 42 00 0b 00", "02", "0c", "00 00"} {
			wrong(t, f.name+", then another one", bytes(t, head+f.s+tail), f.e)
		}
		wrong(t, f.name+" behind imports", bytes(t, head+"02 01 00"+f.s), api.ErrKind)
		wrong(t, f.name+" behind no section", bytes(t, head+"0e 01 00"+f.s), api.ErrForm)
	}
}

// TestModuleHead: P6.2: how a module begins, and ErrLong ahead of all else.
func TestModuleHead(t *testing.T) {
	good := bytes(t, head)
	for cut := range good {
		wrong(t, "a head that is cut", good[:cut], api.ErrForm)
	}
	for k := range good {
		for b := range 256 {
			s := good[:k] + string([]byte{byte(b)}) + good[k+1:]
			if s != good {
				wrong(t, "another head", s, api.ErrForm)
				wrong(t, "another head, then imports", s+"\x02", api.ErrForm)
			}
		}
	}
	wrong(t, "a head behind something", "\x00"+good, api.ErrForm)
	for _, first := range []string{good, "", good + "\x02"} {
		wrong(t, "too long", first+strings.Repeat("\x00", api.MaxCode+1-len(first)), api.ErrLong)
	}
	wrong(t, "far too long", strings.Repeat(good, api.MaxCode), api.ErrLong)
	wrong(t, "just as long as may be", strings.Repeat("a", api.MaxCode), api.ErrForm)
	fill := func(size int) string {
		// A section's number, its length; the name's length.
		return good + "\x00" + leb.PutU(uint64(size-8-1-3)) + "\x01n" + strings.Repeat("\xff", size-8-1-3-2)
	}
	if m, e := dec.Module(fill(api.MaxCode)); e != api.OK || !module.Same(m, api.Module{Start: -1}) {
		t.Errorf("MaxCode bytes: %+v %d", m, e)
	}
	wrong(t, "one byte more", fill(api.MaxCode+1), api.ErrLong)
}

// of is the digits of a list of so many things that are the same.
func of(many int, each string) string { return number(many) + strings.Repeat(each, many) }

// TestModuleLists: P6.2: MaxList things, and one more, in each list: that is told ahead of what stands in it.
func TestModuleLists(t *testing.T) {
	in := func(n int) func(list string) string {
		return func(list string) string { return section(n, list) }
	}
	for _, c := range []struct {
		name string
		each string // a thing of the list
		wrap func(list string) string
	}{
		{"types", "60 00 00", in(1)},
		{"Params", "7f", func(list string) string { return section(1, "01 60"+list+"00") }},
		{"memories", "00 00", in(5)},
		{"globals", "7f 00 41 00 0b", in(6)},
		{"exports", "00 02 00", in(7)},
		{"codes", "02 00 0b", func(list string) string { return section(3, of(4096, "00")) + section(10, list) }},
		{"functions", "00", func(list string) string { return section(3, list) + section(10, of(4096, "02 00 0b")) }},
		{"runs of locals", "01 7e", func(list string) string { return bodied(list + "0b") }},
		{"runs of no locals", "00 7e", func(list string) string { return bodied(list + "0b") }},
		{"labels", "00", func(list string) string { return bodied("00 0e" + list + "00 0b") }},
		{"data", "00 41 00 0b 00", in(11)},
	} {
		if m, e := dec.Module(bytes(t, head+c.wrap(of(4096, c.each)))); e != api.OK || !module.Right(m) {
			t.Errorf("4096 %s: %d", c.name, e)
		}
		wrong(t, "too many "+c.name, bytes(t, head+c.wrap(of(4097, c.each))), api.ErrLong)
		for _, told := range []int{4097, 1<<32 - 1} {
			wrong(t, "too many "+c.name+", but one", bytes(t, head+c.wrap(number(told)+c.each)), api.ErrLong)
		}
	}
	wrong(t, "too many Results", bytes(t, head+section(1, "01 60 00"+of(4097, "7f"))), api.ErrLong)
	wrong(t, "many Results", bytes(t, head+section(1, "01 60 00"+of(4096, "7f"))), api.ErrKind)
}

// TestModuleGreat: P6.2, P1: as many instructions as a module has room for, in one another or not, and as many sections.
func TestModuleGreat(t *testing.T) {
	many := api.MaxCode/3 - 99
	for _, c := range []struct {
		name, s string
		long    int // how many instructions; 0, if it is no code
	}{
		{"blocks in one another", strings.Repeat("02 40", many) + strings.Repeat("0b", many+1), 2*many + 1},
		{"blocks in one another, with an end too few", strings.Repeat("02 40", many) + strings.Repeat("0b", many), 0},
		{"blocks in one another, with an end too many", strings.Repeat("02 40", many) + strings.Repeat("0b", many+2), 0},
		{"blocks behind one another", strings.Repeat("03 40 0b", many) + "0b", 2*many + 1},
		{"plain ones", strings.Repeat("01", 3*many) + "0b", 3*many + 1},
	} {
		s := bytes(t, head+bodied("00"+c.s))
		if c.long == 0 {
			wrong(t, c.name, s, api.ErrForm)
		} else if m, e := dec.Module(s); e != api.OK || len(m.Funcs[0].Code) != c.long || !module.Right(m) {
			t.Errorf("%s: %d", c.name, e)
		}
	}
	if m, e := dec.Module(bytes(t, head+strings.Repeat("00 01 00", many))); e != api.OK || !module.Same(m, api.Module{Start: -1}) {
		t.Error("sections", e)
	}
	runs := strings.Repeat(text("01 80 20 7f 0b"), 4096)
	m, e := dec.Module(bytes(t, head+section(3, number(4096)+strings.Repeat("00", 4096))+section(10, number(4096)+runs)))
	if e != api.OK || m.Funcs[4095].Locals != strings.Repeat("\x7f", 4096) || !module.Right(m) {
		t.Error("locals", e)
	}
}

// TestNew: P3: no text of an answer is a piece of what was handed in, and no list of it is another one's room.
func TestNew(t *testing.T) {
	w := whole()
	w.Funcs[0].Code = append([]api.Instr{{Op: 14, Labels: []int{1, 2, 3}}, {Op: 14, Labels: []int{4}}}, w.Funcs[0].Code...)
	s, _ := enc.Module(w)
	m, e := dec.Module(s)
	if e != api.OK || !module.Same(m, w) {
		t.Fatal(e)
	}
	low := uintptr(unsafe.Pointer(unsafe.StringData(s)))
	for _, part := range []string{m.Types[0].Params, m.Types[0].Results, m.Funcs[0].Locals, m.Exports[0].Name, m.Data[0].Bytes} {
		if p := uintptr(unsafe.Pointer(unsafe.StringData(part))); p >= low && p < low+uintptr(len(s)) {
			t.Errorf("%x is a piece of what was handed in", part)
		}
	}
	spare(m.Types, api.FuncType{Params: "x"})
	spare(m.Memory, api.Memory{Min: 9})
	spare(m.Globals, api.Global{Type: 9})
	spare(m.Exports, api.Export{Name: "x"})
	spare(m.Data, api.Data{Bytes: "x"})
	spare(m.Funcs, api.Func{Type: 9})
	for _, f := range m.Funcs {
		spare(f.Code, api.Instr{Op: 9})
		for _, i := range f.Code {
			spare(i.Labels, 9)
		}
	}
	again, _ := dec.Module(s)
	if !module.Same(m, w) || !module.Same(again, w) {
		t.Errorf("%+v", m)
	}
	again.Funcs[0].Code[0].Labels[0], again.Types[0].Params = 77, ""
	if !module.Same(m, w) {
		t.Errorf("%+v", m)
	}
}

// spare writes into all room behind a list.
func spare[T any](l []T, x T) {
	for k := len(l); k < cap(l); k++ {
		l[: k+1 : cap(l)][k] = x
	}
}

// TestBeside: P4: the calls keep nothing: what is asked ahead of them, or beside them, changes no answer.
func TestBeside(t *testing.T) {
	s, _ := enc.Module(whole())
	faults := slices.Concat(sectionFaults(), listFaults(), codeFaults())
	var wait sync.WaitGroup
	for k := range 8 {
		wait.Go(func() {
			for range 10 {
				for _, f := range faults {
					if _, e := dec.Module(bytes(t, head+f.s)); e != f.e {
						t.Error(f.name)
					}
				}
				if m, e := dec.Module(s); !module.Same(m, whole()) || e != api.OK {
					t.Errorf("%+v %d", m, e)
				}
				if i, next, e := dec.Instr("\x41"+string(rune(k)), 0); i.A != int64(k) || next != 2 || e != api.OK {
					t.Error("Instr " + strconv.Itoa(k))
				}
			}
		})
	}
	wait.Wait()
}
