package enc_test

import (
	"encoding/hex"
	"math"
	"math/rand"
	"reflect"
	"slices"
	"strconv"
	"strings"
	"sync"
	"testing"

	"tuckmill/api"
	"tuckmill/enc"
	"tuckmill/leb"
	"tuckmill/module"
	"tuckmill/op"
)

// bytes are those of digits in pairs, spaces among them.
func bytes(t testing.TB, digits string) string {
	t.Helper()
	s, err := hex.DecodeString(strings.Join(strings.Fields(digits), ""))
	if err != nil {
		t.Fatal(err, digits)
	}
	return string(s)
}

// head is what all modules begin with, in digits.
const head = "00 61 73 6d 01 00 00 00 "

// written are the bytes of a module that has some.
func written(t testing.TB, m api.Module) string {
	t.Helper()
	s, e := enc.Module(m)
	if e != api.OK {
		t.Fatalf("Module(%.200v): %d", m, e)
	}
	return s
}

// TestExample: the chapter's.
func TestExample(t *testing.T) {
	if s, e := enc.Module(api.Module{Start: -1}); s != bytes(t, head) || e != api.OK {
		t.Errorf("%x %d", s, e)
	}
}

// TestInstrKnown: P5.1, case by case.
func TestInstrKnown(t *testing.T) {
	for _, c := range []struct {
		i    api.Instr
		want string // nothing, if it is not right
	}{
		{api.Instr{Op: 0x00}, "00"},
		{api.Instr{Op: 0x01}, "01"},
		{api.Instr{Op: 0x05}, "05"},
		{api.Instr{Op: 0x0b}, "0b"},
		{api.Instr{Op: 0x0b, Labels: []int{}}, "0b"},
		{api.Instr{Op: 0x0f}, "0f"},
		{api.Instr{Op: 0x1a}, "1a"},
		{api.Instr{Op: 0x1b}, "1b"},
		{api.Instr{Op: 0x6a}, "6a"},
		{api.Instr{Op: 0x8a}, "8a"},
		{api.Instr{Op: 0xa7}, "a7"},
		{api.Instr{Op: 0xad}, "ad"},
		{api.Instr{Op: 0x02, A: 64}, "02 40"},
		{api.Instr{Op: 0x03, A: 127}, "03 7f"},
		{api.Instr{Op: 0x04, A: 126}, "04 7e"},
		{api.Instr{Op: 0x0c}, "0c 00"},
		{api.Instr{Op: 0x0d, A: 127}, "0d 7f"},
		{api.Instr{Op: 0x0c, A: 128}, "0c 80 01"},
		{api.Instr{Op: 0x0c, A: 1<<32 - 1}, "0c ff ff ff ff 0f"},
		{api.Instr{Op: 0x0e}, "0e 00 00"},
		{api.Instr{Op: 0x0e, A: 300}, "0e 00 ac 02"},
		{api.Instr{Op: 0x0e, A: 5, Labels: []int{7}}, "0e 01 07 05"},
		{api.Instr{Op: 0x0e, A: 64, Labels: []int{0, 128, 1<<32 - 1}}, "0e 03 00 80 01 ff ff ff ff 0f 40"},
		{api.Instr{Op: 0x0e, A: 1, Labels: make([]int, 4096)}, "0e 80 20" + strings.Repeat("00", 4096) + "01"},
		{api.Instr{Op: 0x10, A: 64}, "10 40"},
		{api.Instr{Op: 0x20, A: 624485}, "20 e5 8e 26"},
		{api.Instr{Op: 0x24, A: 1 << 31}, "24 80 80 80 80 08"},
		{api.Instr{Op: 0x28}, "28 00 00"},
		{api.Instr{Op: 0x28, A: 2, B: 8}, "28 02 08"},
		{api.Instr{Op: 0x37, A: 3, B: 1 << 20}, "37 03 80 80 40"},
		{api.Instr{Op: 0x3e, A: 1<<32 - 1, B: 1<<32 - 2}, "3e ff ff ff ff 0f fe ff ff ff 0f"},
		{api.Instr{Op: 0x3f}, "3f 00"},
		{api.Instr{Op: 0x40}, "40 00"},
		{api.Instr{Op: 0x41}, "41 00"},
		{api.Instr{Op: 0x41, A: 63}, "41 3f"},
		{api.Instr{Op: 0x41, A: 64}, "41 c0 00"},
		{api.Instr{Op: 0x41, A: -64}, "41 40"},
		{api.Instr{Op: 0x41, A: -123456}, "41 c0 bb 78"},
		{api.Instr{Op: 0x41, A: 1<<31 - 1}, "41 ff ff ff ff 07"},
		{api.Instr{Op: 0x41, A: -1 << 31}, "41 80 80 80 80 78"},
		{api.Instr{Op: 0x42, A: -1}, "42 7f"},
		{api.Instr{Op: 0x42, A: 1 << 31}, "42 80 80 80 80 08"},
		{api.Instr{Op: 0x42, A: math.MaxInt64}, "42 ff ff ff ff ff ff ff ff ff 00"},
		{api.Instr{Op: 0x42, A: math.MinInt64}, "42 80 80 80 80 80 80 80 80 80 7f"},
		{api.Instr{Op: -1}, ""},
		{api.Instr{Op: 0x06}, ""},
		{api.Instr{Op: 0x11}, ""},
		{api.Instr{Op: 0x43}, ""},
		{api.Instr{Op: 0x92}, ""},
		{api.Instr{Op: 0x0b + 256}, ""},
		{api.Instr{Op: 0x0b + 1<<32}, ""},
		{api.Instr{Op: 0x0b, A: 1}, ""},
		{api.Instr{Op: 0x0b, B: 1}, ""},
		{api.Instr{Op: 0x0b, Labels: []int{0}}, ""},
		{api.Instr{Op: 0x02}, ""},
		{api.Instr{Op: 0x02, A: -64}, ""},
		{api.Instr{Op: 0x02, A: 64 + 256}, ""},
		{api.Instr{Op: 0x0c, A: -1}, ""},
		{api.Instr{Op: 0x0c, A: 1 << 32}, ""},
		{api.Instr{Op: 0x0e, Labels: []int{0, -1}}, ""},
		{api.Instr{Op: 0x0e, Labels: make([]int, 4097)}, ""},
		{api.Instr{Op: 0x28, B: 1 << 32}, ""},
		{api.Instr{Op: 0x3f, A: 1}, ""},
		{api.Instr{Op: 0x41, A: 1 << 31}, ""},
	} {
		if s, ok := enc.Instr(c.i); s != bytes(t, c.want) || ok != (c.want != "") {
			t.Errorf("Instr(%.60v): %.60x %v, not %.60s", c.i, s, ok, c.want)
		}
	}
}

// TestInstr: P5.1: each code, with numbers of all sorts: what is written is read as it was, and there is nothing just where it is not right.
func TestInstr(t *testing.T) {
	sorts := []int64{math.MinInt64, -1 << 31, -65, -64, -1, 0, 1, 2, 63, 64, 126, 127, 128, 16383, 16384, 1<<31 - 1, 1 << 31, 1<<32 - 1, 1 << 32, math.MaxInt64}
	told := map[int]int{}
	for c := -2; c < 300; c++ {
		for _, a := range sorts {
			for _, b := range sorts {
				for _, labels := range [][]int{nil, {}, {0}, {3, 0, 1<<32 - 1}, {-1}, {1 << 32}} {
					i := api.Instr{Op: c, A: a, B: b, Labels: labels}
					s, ok := enc.Instr(i)
					if ok != op.Right(i) || !ok && s != "" {
						t.Errorf("Instr(%+v): %x %v", i, s, ok)
					}
					if !ok {
						continue
					}
					told[c]++
					r := &reader{t: t, s: s}
					if back := r.instr(); !same(i, back) || r.at != len(s) {
						t.Errorf("Instr(%+v): %x", i, s)
					}
				}
			}
		}
	}
	if len(told) != 103 {
		t.Error(len(told))
	}
}

// same tells whether two instructions are.
func same(i, j api.Instr) bool {
	return i.Op == j.Op && i.A == j.A && i.B == j.B && slices.Equal(i.Labels, j.Labels)
}

// reader reads what was written just as chapter 5 says it is, and fails at all else, also where it would be another way to write the same.
type reader struct {
	t  testing.TB
	s  string
	at int
}

// to goes on to a place, and tells what lies between.
func (r *reader) to(next int) string {
	r.t.Helper()
	if next < r.at || next > len(r.s) {
		r.t.Fatalf("%.99x ends ahead of %d", r.s, next)
	}
	was := r.at
	r.at = next
	return r.s[was:next]
}

func (r *reader) one() int {
	r.t.Helper()
	return int(r.to(r.at + 1)[0])
}

func (r *reader) number() int {
	r.t.Helper()
	n, next, e := leb.U32(r.s, r.at)
	if e != api.OK || r.to(next) != leb.PutU(uint64(n)) {
		r.t.Fatalf("no number ahead of %d in %.99x", r.at, r.s)
	}
	return int(n)
}

func (r *reader) signed() int64 {
	r.t.Helper()
	n, next, e := leb.S64(r.s, r.at)
	if e != api.OK || r.to(next) != leb.PutS(n) {
		r.t.Fatalf("no number with a sign ahead of %d in %.99x", r.at, r.s)
	}
	return n
}

func (r *reader) text() string {
	r.t.Helper()
	n := r.number()
	return r.to(r.at + n)
}

// is fails, if a byte that has to stand there does not.
func (r *reader) is(b int) {
	r.t.Helper()
	if got := r.one(); got != b {
		r.t.Fatalf("%x, not %x, ahead of %d in %.99x", got, b, r.at, r.s)
	}
}

// items reads a list.
func items[T any](r *reader, each func() T) []T {
	l := make([]T, r.number())
	for k := range l {
		l[k] = each()
	}
	return l
}

// constant reads a const of a type.
func (r *reader) constant(kind int) int64 {
	r.t.Helper()
	r.is(map[int]int{127: 0x41, 126: 0x42}[kind])
	n := r.signed()
	r.is(0x0b)
	return n
}

func (r *reader) instr() api.Instr {
	r.t.Helper()
	i := api.Instr{Op: r.one()}
	info, ok := op.Of(i.Op)
	if !ok {
		r.t.Fatalf("no instruction ahead of %d in %.99x", r.at, r.s)
	}
	switch info.Shape {
	case op.Block:
		i.A = int64(r.one())
	case op.Label, op.Index:
		i.A = int64(r.number())
	case op.Labels:
		i.Labels = items(r, r.number)
		i.A = int64(r.number())
	case op.Memory:
		i.A = int64(r.number())
		i.B = int64(r.number())
	case op.Zero:
		r.is(0)
	case op.Const:
		i.A = r.signed()
	}
	return i
}

// code reads a function's locals and its code into f.
func (r *reader) code(f *api.Func) {
	r.t.Helper()
	in := &reader{t: r.t, s: r.text()}
	for range in.number() {
		many, kind := in.number(), in.one()
		if many == 0 || strings.HasSuffix(f.Locals, string(rune(kind))) {
			r.t.Fatalf("a run of locals that could be longer, or is none, in %.99x", in.s)
		}
		f.Locals += strings.Repeat(string(rune(kind)), many)
	}
	for in.at < len(in.s) {
		f.Code = append(f.Code, in.instr())
	}
}

// section reads the section of a number into m.
func (r *reader) section(n int, m *api.Module) {
	r.t.Helper()
	switch n {
	case 1:
		m.Types = items(r, func() api.FuncType {
			r.is(0x60)
			return api.FuncType{Params: r.text(), Results: r.text()}
		})
	case 3:
		m.Funcs = items(r, func() api.Func { return api.Func{Type: r.number()} })
	case 5:
		m.Memory = items(r, func() api.Memory {
			if r.one() == 0 {
				return api.Memory{Min: r.number(), Max: -1}
			}
			r.at--
			r.is(1)
			return api.Memory{Min: r.number(), Max: r.number()}
		})
	case 6:
		m.Globals = items(r, func() api.Global {
			kind, set := r.one(), r.one()
			if set > 1 {
				r.t.Fatalf("may it be set: %d", set)
			}
			return api.Global{Type: kind, Mut: set == 1, Init: r.constant(kind)}
		})
	case 7:
		m.Exports = items(r, func() api.Export { return api.Export{Name: r.text(), Kind: r.one(), Index: r.number()} })
	case 8:
		m.Start = r.number()
	case 10:
		for k := range items(r, func() int { return 0 }) {
			r.code(&m.Funcs[k])
		}
	case 11:
		m.Data = items(r, func() api.Data {
			r.is(0)
			return api.Data{Offset: int(r.constant(127)), Bytes: r.text()}
		})
	default:
		r.t.Fatalf("a section of number %d", n)
	}
}

// read reads a module, in which no section is there for nothing.
func read(t testing.TB, s string) api.Module {
	t.Helper()
	r := &reader{t: t, s: s}
	if r.to(8) != bytes(t, head) {
		t.Fatalf("%.99x", s)
	}
	m, last := api.Module{Start: -1}, 0
	for r.at < len(s) {
		n := r.one()
		in := &reader{t: t, s: r.text()}
		if n <= last {
			t.Fatalf("section %d behind section %d", n, last)
		}
		if n != 8 && in.s[0] == 0 {
			t.Fatalf("section %d has nothing in it", n)
		}
		in.section(n, &m)
		if in.at != len(in.s) {
			t.Fatalf("something is left in section %d", n)
		}
		last = n
	}
	return m
}

// TestModuleKnown: P5.2, section by section, worked out by hand.
func TestModuleKnown(t *testing.T) {
	end := []api.Instr{{Op: 0x0b}}
	for _, c := range []struct {
		name string
		m    api.Module
		want string // behind the head
	}{
		{"empty lists", api.Module{Types: []api.FuncType{}, Funcs: []api.Func{}, Memory: []api.Memory{}, Globals: []api.Global{}, Exports: []api.Export{}, Start: -1, Data: []api.Data{}}, ""},
		{"a type of nothing", api.Module{Types: []api.FuncType{{}}, Start: -1}, "01 04 01 60 00 00"},
		{"types", api.Module{Types: []api.FuncType{{Params: "\x7f\x7e\x7f", Results: "\x7e"}, {Results: "\x7f"}}, Start: -1}, "01 0c 02 60 03 7f 7e 7f 01 7e 60 00 01 7f"},
		{"a function", api.Module{Funcs: []api.Func{{Code: end}}, Start: -1}, "03 02 01 00 0a 04 01 02 00 0b"},
		{"functions", api.Module{Funcs: []api.Func{{Type: 200, Code: []api.Instr{{Op: 0x41, A: -1}, {Op: 0x1a}, {Op: 0x0b}}}, {Type: 3, Locals: "\x7f", Code: end}}, Start: -1}, "03 04 02 c8 01 03 0a 0c 02 05 00 41 7f 1a 0b 04 01 01 7f 0b"},
		{"runs of locals", api.Module{Funcs: []api.Func{{Locals: "\x7f\x7f\x7e\x7f\x7e\x7e\x7e", Code: end}}, Start: -1}, "03 02 01 00 0a 0c 01 0a 04 02 7f 01 7e 01 7f 03 7e 0b"},
		{"a long run", api.Module{Funcs: []api.Func{{Locals: strings.Repeat("\x7e", 4096), Code: end}}, Start: -1}, "03 02 01 00 0a 07 01 05 01 80 20 7e 0b"},
		{"blocks", api.Module{Funcs: []api.Func{{Code: []api.Instr{{Op: 0x02, A: 64}, {Op: 0x41, A: 5}, {Op: 0x04, A: 127}, {Op: 0x05}, {Op: 0x0b}, {Op: 0x0b}, {Op: 0x0b}}}}, Start: -1}, "03 02 01 00 0a 0d 01 0b 00 02 40 41 05 04 7f 05 0b 0b 0b"},
		{"a memory without Max", api.Module{Memory: []api.Memory{{Min: 1, Max: -1}}, Start: -1}, "05 03 01 00 01"},
		{"a memory with Max 0", api.Module{Memory: []api.Memory{{}}, Start: -1}, "05 04 01 01 00 00"},
		{"memories", api.Module{Memory: []api.Memory{{Min: 200, Max: 65536}, {Min: 0, Max: -1}, {Min: 1<<32 - 1, Max: 1<<32 - 1}}, Start: -1}, "05 14 03 01 c8 01 80 80 04 00 00 01 ff ff ff ff 0f ff ff ff ff 0f"},
		{"globals", api.Module{Globals: []api.Global{{Type: 127, Mut: true, Init: -5}, {Type: 126, Init: 64}, {Type: 127}, {Type: 126, Mut: true, Init: math.MinInt64}}, Start: -1}, "06 1f 04 7f 01 41 7b 0b 7e 00 42 c0 00 0b 7f 00 41 00 0b 7e 01 42 80 80 80 80 80 80 80 80 80 7f 0b"},
		{"exports", api.Module{Exports: []api.Export{{Name: "run", Kind: 0, Index: 128}, {Name: "", Kind: 2}, {Name: "\u00e9", Kind: 3, Index: 1}}, Start: -1}, "07 10 03 03 72 75 6e 00 80 01 00 02 00 02 c3 a9 03 01"},
		{"Start 0", api.Module{}, "08 01 00"},
		{"Start", api.Module{Start: 1<<32 - 1}, "08 05 ff ff ff ff 0f"},
		{"data", api.Module{Data: []api.Data{{Offset: 64, Bytes: "a\xff\x00"}, {Offset: -1}, {Offset: -1 << 31, Bytes: "b"}}, Start: -1}, "0b 19 03 00 41 c0 00 0b 03 61 ff 00 00 41 7f 0b 00 00 41 80 80 80 80 78 0b 01 62"},
		{"a long text", api.Module{Data: []api.Data{{Bytes: strings.Repeat("z", 200)}}, Start: -1}, "0b cf 01 01 00 41 00 0b c8 01 " + strings.Repeat("7a", 200)},
		{"a long list", api.Module{Types: make([]api.FuncType, 4096), Start: -1}, "01 82 60 80 20 " + strings.Repeat("60 00 00", 4096)},
		{"all of them", api.Module{
			Types:   []api.FuncType{{Params: "\x7f", Results: "\x7f"}, {}},
			Funcs:   []api.Func{{Locals: "\x7e\x7e", Code: []api.Instr{{Op: 0x20}, {Op: 0x28, A: 2, B: 8}, {Op: 0x0b}}}, {Type: 1, Code: []api.Instr{{Op: 0x3f}, {Op: 0x1a}, {Op: 0x0b}}}},
			Memory:  []api.Memory{{Min: 1, Max: 2}},
			Globals: []api.Global{{Type: 127, Mut: true, Init: 1}},
			Exports: []api.Export{{Name: "f"}},
			Start:   1,
			Data:    []api.Data{{Offset: 16, Bytes: "hi"}},
		}, "01 09 02 60 01 7f 01 7f 60 00 00 03 03 02 00 01 05 04 01 01 01 02 06 06 01 7f 01 41 01 0b 07 05 01 01 66 00 00 08 01 01" +
			"0a 11 02 09 01 02 7e 20 00 28 02 08 0b 05 00 3f 00 1a 0b 0b 08 01 00 41 10 0b 02 68 69"},
	} {
		if s, e := enc.Module(c.m); s != bytes(t, head+c.want) || e != api.OK {
			t.Errorf("Module, %s: %.200x %d, not %.200s", c.name, s, e, head+c.want)
		}
	}
}

// whole is a module with something in each list; all of it is new.
func whole() api.Module {
	return api.Module{
		Types: []api.FuncType{{Params: "\x7f\x7e", Results: "\x7e"}, {}},
		Funcs: []api.Func{
			{Type: 0, Locals: "\x7e\x7f", Code: []api.Instr{{Op: 0x20}, {Op: 0x28, A: 2, B: 8}, {Op: 0x0e, A: 1, Labels: []int{0, 3}}, {Op: 0x42, A: -7}, {Op: 0x0b}}},
			{Type: 1, Code: []api.Instr{{Op: 0x02, A: 64}, {Op: 0x0b}, {Op: 0x0b}}},
		},
		Memory:  []api.Memory{{Min: 1, Max: 2}},
		Globals: []api.Global{{Type: 127, Mut: true, Init: -5}, {Type: 126, Init: 1 << 40}},
		Exports: []api.Export{{Name: "run", Kind: 0, Index: 1}, {Name: "mem", Kind: 2}, {Name: "g\u00e9", Kind: 3, Index: 1}},
		Start:   1,
		Data:    []api.Data{{Offset: 4, Bytes: "ab\xff"}, {}},
	}
}

// change is what is done to a whole module.
type change struct {
	name string
	do   func(m *api.Module)
}

// wrongs each make a module that is not right of a whole one.
func wrongs() []change {
	return []change{
		{"too many types", func(m *api.Module) { m.Types = make([]api.FuncType, 4097) }},
		{"too many functions", func(m *api.Module) { m.Funcs = slices.Repeat(m.Funcs[1:], 4097) }},
		{"too many memories", func(m *api.Module) { m.Memory = make([]api.Memory, 4097) }},
		{"too many globals", func(m *api.Module) { m.Globals = slices.Repeat(m.Globals[:1], 4097) }},
		{"too many exports", func(m *api.Module) { m.Exports = make([]api.Export, 4097) }},
		{"too many data", func(m *api.Module) { m.Data = make([]api.Data, 4097) }},
		{"Params of floats", func(m *api.Module) { m.Types[0].Params = "\x7d" }},
		{"too many Params", func(m *api.Module) { m.Types[0].Params = strings.Repeat("\x7f", 4097) }},
		{"two Results", func(m *api.Module) { m.Types[1].Results = "\x7f\x7f" }},
		{"a Type below 0", func(m *api.Module) { m.Funcs[0].Type = -1 }},
		{"too great a Type", func(m *api.Module) { m.Funcs[1].Type = 1 << 32 }},
		{"Locals of nothing", func(m *api.Module) { m.Funcs[0].Locals = "\x40" }},
		{"too many Locals", func(m *api.Module) { m.Funcs[1].Locals = strings.Repeat("\x7f", 4097) }},
		{"no code", func(m *api.Module) { m.Funcs[0].Code = nil }},
		{"no end", func(m *api.Module) { m.Funcs[1].Code = m.Funcs[1].Code[:2] }},
		{"no such instruction", func(m *api.Module) { m.Funcs[0].Code[3] = api.Instr{Op: 0x06} }},
		{"an instruction that is not right", func(m *api.Module) { m.Funcs[0].Code[0].B = 1 }},
		{"a label below 0", func(m *api.Module) { m.Funcs[0].Code[2].Labels[1] = -1 }},
		{"a Min below 0", func(m *api.Module) { m.Memory[0].Min = -1 }},
		{"a Max below -1", func(m *api.Module) { m.Memory[0].Max = -2 }},
		{"too great a Max", func(m *api.Module) { m.Memory[0].Max = 1 << 32 }},
		{"a global of floats", func(m *api.Module) { m.Globals[1].Type = 124 }},
		{"too great an Init", func(m *api.Module) { m.Globals[0].Init = 1 << 31 }},
		{"a name that is none", func(m *api.Module) { m.Exports[2].Name = "\xff" }},
		{"a table", func(m *api.Module) { m.Exports[0].Kind = 1 }},
		{"an Index below 0", func(m *api.Module) { m.Exports[0].Index = -1 }},
		{"a Start below -1", func(m *api.Module) { m.Start = -2 }},
		{"too great a Start", func(m *api.Module) { m.Start = 1 << 32 }},
		{"too great an Offset", func(m *api.Module) { m.Data[0].Offset = 1 << 31 }},
		{"too small an Offset", func(m *api.Module) { m.Data[1].Offset = -1<<31 - 1 }},
	}
}

// TestModuleArg: P5.2: what is not right is refused as such, also where it is too long besides.
func TestModuleArg(t *testing.T) {
	for _, c := range wrongs() {
		for _, long := range []bool{false, true} {
			m := whole()
			if long {
				m.Data = append(m.Data, api.Data{Bytes: strings.Repeat("x", api.MaxCode)})
			}
			c.do(&m)
			if s, e := enc.Module(m); s != "" || e != api.ErrArg {
				t.Errorf("Module, %s, long %v: %.99x %d", c.name, long, s, e)
			}
		}
	}
}

// fill makes of a module one of so many bytes, by one more of its data.
func fill(t *testing.T, m api.Module, size int) api.Module {
	t.Helper()
	m.Data = append(slices.Clone(m.Data), api.Data{})
	last := &m.Data[len(m.Data)-1]
	low, high := 0, size
	for low < high {
		mid := (low + high) / 2
		last.Bytes = strings.Repeat("x", mid)
		if s, e := enc.Module(m); e == api.OK && len(s) < size {
			low = mid + 1
		} else {
			high = mid
		}
	}
	last.Bytes = strings.Repeat("x", low)
	return m
}

// stuff is code of so many bytes, and an end.
func stuff(many int) []api.Instr {
	long := slices.Repeat([]api.Instr{{Op: 0x42, A: math.MinInt64}}, many/11)
	return slices.Concat(long, slices.Repeat([]api.Instr{{Op: 1}}, many%11), []api.Instr{{Op: 0x0b}})
}

// TestModuleEdge: P5.2: MaxCode bytes, and one more, whatever they are of.
func TestModuleEdge(t *testing.T) {
	// Each makes a module of so many bytes, and of those that are around them: how many these are, is told ahead of it.
	for _, c := range []struct {
		name   string
		around int
		make   func(many int) api.Module
	}{
		// The head; a section's number, its length; how many data; 0, the const; the text's length.
		{"data", 8 + 1 + 3 + 1 + 1 + 3 + 3, func(many int) api.Module {
			return api.Module{Start: -1, Data: []api.Data{{Bytes: strings.Repeat("x", many)}}}
		}},
		// The head; a section's number, its length; how many exports; the name's length; the Kind, the Index.
		{"a name", 8 + 1 + 3 + 1 + 3 + 2, func(many int) api.Module {
			return api.Module{Start: -1, Exports: []api.Export{{Name: strings.Repeat("n", many)}}}
		}},
		// The head; section 3; a section's number, its length; how many codes; the code's length; how many runs; the end.
		{"code", 8 + 4 + 1 + 3 + 1 + 3 + 1 + 1, func(many int) api.Module {
			return api.Module{Start: -1, Funcs: []api.Func{{Code: stuff(many)}}}
		}},
		// Likewise, with two of section 3, and the first code, of 1000 bytes, behind its length.
		{"code of the last of two", 8 + 5 + 1 + 3 + 1 + 2 + 1000 + 3 + 1 + 1, func(many int) api.Module {
			return api.Module{Start: -1, Funcs: []api.Func{{Code: stuff(998)}, {Code: stuff(many)}}}
		}},
		// As of data, with section 8.
		{"data behind Start", 8 + 7 + 1 + 3 + 1 + 1 + 3 + 3, func(many int) api.Module {
			return api.Module{Start: 1 << 31, Data: []api.Data{{Bytes: strings.Repeat("x", many)}}}
		}},
	} {
		many := api.MaxCode - c.around
		for d := -2; d < 4; d++ {
			m := c.make(many + d)
			s, e := enc.Module(m)
			if d > 0 && (s != "" || e != api.ErrLong) || d <= 0 && (e != api.OK || len(s) != api.MaxCode+d) {
				t.Errorf("Module, %s, %d bytes beyond: %d bytes, %d", c.name, d, len(s), e)
			}
			if d <= 0 && !module.Same(read(t, s), m) {
				t.Errorf("Module, %s, %d bytes beyond: another module", c.name, d)
			}
		}
	}
}

// TestModuleLong: P5.2: too long by far, each list by itself, and by all of them together.
func TestModuleLong(t *testing.T) {
	great, end := strings.Repeat("g", 3*api.MaxCode), api.Instr{Op: 0x0b}
	for _, c := range []change{
		{"types", func(m *api.Module) {
			m.Types = slices.Repeat([]api.FuncType{{Params: strings.Repeat("\x7f", 4096)}}, 4096)
		}},
		{"a code", func(m *api.Module) { m.Funcs[1].Code = stuff(3 * api.MaxCode) }},
		{"codes", func(m *api.Module) {
			m.Funcs = slices.Repeat([]api.Func{{Code: stuff(300)}}, 4096)
		}},
		{"locals", func(m *api.Module) {
			m.Funcs = slices.Repeat([]api.Func{{Locals: strings.Repeat("\x7f\x7e", 2048), Code: []api.Instr{end}}}, 4096)
		}},
		{"labels", func(m *api.Module) {
			m.Funcs[0].Code = append(slices.Repeat([]api.Instr{{Op: 0x0e, Labels: make([]int, 4096)}}, 300), end)
		}},
		{"a name", func(m *api.Module) { m.Exports[0].Name = great }},
		{"the last name", func(m *api.Module) { m.Exports[2].Name = great }},
		{"names", func(m *api.Module) { m.Exports = slices.Repeat([]api.Export{{Name: great[:300]}}, 4096) }},
		{"a data's bytes", func(m *api.Module) { m.Data[0].Bytes = great }},
		{"the last data's bytes", func(m *api.Module) { m.Data[1].Bytes = great }},
		{"many great data", func(m *api.Module) { m.Data = slices.Repeat([]api.Data{{Bytes: great}}, 600) }},
		{"all together", func(m *api.Module) {
			half := great[:api.MaxCode/2]
			m.Exports[0].Name, m.Data[0].Bytes = half, half
		}},
	} {
		m := whole()
		c.do(&m)
		if s, e := enc.Module(m); s != "" || e != api.ErrLong {
			t.Errorf("Module, %s: %d bytes, %d", c.name, len(s), e)
		}
	}
	m := fill(t, whole(), api.MaxCode)
	if s := written(t, m); len(s) != api.MaxCode || !module.Same(read(t, s), m) {
		t.Error("a whole module of just MaxCode bytes", len(s))
	}
	m.Exports[0].Name += "n"
	if s, e := enc.Module(m); s != "" || e != api.ErrLong {
		t.Error("one byte beyond", len(s), e)
	}
}

// changes each make another right module of a whole one.
func changes() []change {
	return []change{
		{"nothing", func(m *api.Module) {}},
		{"Params", func(m *api.Module) { m.Types[0].Params = "\x7f\x7f" }},
		{"fewer Params", func(m *api.Module) { m.Types[0].Params = "\x7f" }},
		{"no Results", func(m *api.Module) { m.Types[0].Results = "" }},
		{"Params of the other one", func(m *api.Module) { m.Types[1].Params = "\x7f" }},
		{"Results of the other one", func(m *api.Module) { m.Types[1].Results = "\x7f" }},
		{"Type", func(m *api.Module) { m.Funcs[0].Type = 1 }},
		{"a great Type", func(m *api.Module) { m.Funcs[1].Type = 1<<32 - 1 }},
		{"Locals", func(m *api.Module) { m.Funcs[0].Locals = "\x7f\x7e" }},
		{"Locals of one type", func(m *api.Module) { m.Funcs[0].Locals = "\x7e\x7e" }},
		{"no Locals", func(m *api.Module) { m.Funcs[0].Locals = "" }},
		{"Locals of the other one", func(m *api.Module) { m.Funcs[1].Locals = "\x7f" }},
		{"Op", func(m *api.Module) { m.Funcs[0].Code[0].Op = 0x21 }},
		{"A", func(m *api.Module) { m.Funcs[0].Code[3].A = -8 }},
		{"a far A", func(m *api.Module) { m.Funcs[0].Code[3].A = -7 + 1<<33 }},
		{"B", func(m *api.Module) { m.Funcs[0].Code[1].B = 9 }},
		{"A for B", func(m *api.Module) { m.Funcs[0].Code[1].A, m.Funcs[0].Code[1].B = 8, 2 }},
		{"a label", func(m *api.Module) { m.Funcs[0].Code[2].Labels[1] = 2 }},
		{"the last label", func(m *api.Module) { m.Funcs[0].Code[2].A = 0 }},
		{"fewer labels", func(m *api.Module) { m.Funcs[0].Code[2].Labels = []int{0} }},
		{"no labels", func(m *api.Module) { m.Funcs[0].Code[2].Labels = nil }},
		{"a block's type", func(m *api.Module) { m.Funcs[1].Code[0].A = 127 }},
		{"a loop", func(m *api.Module) { m.Funcs[1].Code[0].Op = 3 }},
		{"less code", func(m *api.Module) { m.Funcs[1].Code = m.Funcs[1].Code[1:2] }},
		{"functions turned about", func(m *api.Module) { slices.Reverse(m.Funcs) }},
		{"Min", func(m *api.Module) { m.Memory[0].Min = 0 }},
		{"Max", func(m *api.Module) { m.Memory[0].Max = 0 }},
		{"no Max", func(m *api.Module) { m.Memory[0].Max = -1 }},
		{"more memory", func(m *api.Module) { m.Memory = append(m.Memory, api.Memory{}) }},
		{"a global's type", func(m *api.Module) { m.Globals[0].Type = 126 }},
		{"Mut", func(m *api.Module) { m.Globals[0].Mut = false }},
		{"the last Mut", func(m *api.Module) { m.Globals[1].Mut = true }},
		{"Init", func(m *api.Module) { m.Globals[0].Init = 5 }},
		{"the last Init", func(m *api.Module) { m.Globals[1].Init = 1 << 41 }},
		{"Name", func(m *api.Module) { m.Exports[0].Name = "ruN" }},
		{"no Name", func(m *api.Module) { m.Exports[0].Name = "" }},
		{"Kind", func(m *api.Module) { m.Exports[1].Kind = 0 }},
		{"Index", func(m *api.Module) { m.Exports[2].Index = 0 }},
		{"exports turned about", func(m *api.Module) { slices.Reverse(m.Exports) }},
		{"Start", func(m *api.Module) { m.Start = 0 }},
		{"no Start", func(m *api.Module) { m.Start = -1 }},
		{"Offset", func(m *api.Module) { m.Data[0].Offset = 5 }},
		{"the last Offset", func(m *api.Module) { m.Data[1].Offset = -1 }},
		{"Bytes", func(m *api.Module) { m.Data[0].Bytes = "ab\xfe" }},
		{"the last Bytes", func(m *api.Module) { m.Data[1].Bytes = "\x00" }},
		{"no types", func(m *api.Module) { m.Types = nil }},
		{"no functions", func(m *api.Module) { m.Funcs = nil }},
		{"no memory", func(m *api.Module) { m.Memory = nil }},
		{"no globals", func(m *api.Module) { m.Globals = nil }},
		{"no exports", func(m *api.Module) { m.Exports = nil }},
		{"no data", func(m *api.Module) { m.Data = nil }},
		{"more types", func(m *api.Module) { m.Types = append(m.Types, api.FuncType{}) }},
		{"more data", func(m *api.Module) { m.Data = append(m.Data, api.Data{}) }},
		{"fewer of all", func(m *api.Module) {
			m.Types, m.Funcs, m.Globals, m.Exports, m.Data = m.Types[:1], m.Funcs[:1], m.Globals[:1], m.Exports[:1], m.Data[:1]
		}},
	}
}

// TestModuleChanges: P5.3: no change goes unseen, and no two of them look alike; what was made anew is written as it was.
func TestModuleChanges(t *testing.T) {
	l := changes()
	for k, c := range l {
		m := whole()
		c.do(&m)
		s := written(t, m)
		if !module.Same(read(t, s), m) {
			t.Errorf("%s: another module", c.name)
		}
		if written(t, module.Copy(m)) != s {
			t.Errorf("%s: the copy has other bytes", c.name)
		}
		for _, d := range l[k+1:] {
			other := whole()
			d.do(&other)
			if (written(t, other) == s) != module.Same(m, other) {
				t.Errorf("%s, and %s", c.name, d.name)
			}
		}
	}
}

// chooser makes modules that are right, out of a row of chances that is always the same one.
type chooser struct {
	*rand.Rand
	codes []int // of the instructions that nest nothing
}

func newChooser(k int) chooser {
	c := chooser{Rand: rand.New(rand.NewSource(int64(k)))}
	for code := range 256 {
		if _, ok := op.Of(code); ok && code != 2 && code != 3 && code != 4 && code != 5 && code != 11 {
			c.codes = append(c.codes, code)
		}
	}
	return c
}

// word is a number of 32 bits without a sign, as often as not at an edge.
func (c chooser) word() int {
	l := []int{0, 1, 2, 63, 64, 127, 128, 255, 16383, 16384, 1<<21 - 1, 1 << 21, 1<<28 - 1, 1 << 28, 1<<31 - 1, 1 << 31, 1<<32 - 1}
	if c.Intn(2) == 0 {
		return l[c.Intn(len(l))]
	}
	return int(c.Uint32() >> c.Intn(32))
}

// wordOrNone is such a number, or -1.
func (c chooser) wordOrNone() int {
	if c.Intn(2) == 0 {
		return -1
	}
	return c.word()
}

// whole is any number, with a sign, of so many bits.
func (c chooser) whole(bits int) int64 {
	n := int64(c.Uint64()) >> (64 - bits)
	return n >> c.Intn(bits)
}

// bytes are some of these.
func (c chooser) bytes(most int, of string) string {
	s := make([]byte, c.Intn(most+1))
	for k := range s {
		s[k] = of[c.Intn(len(of))]
	}
	return string(s)
}

// kinds are value types, in runs.
func (c chooser) kinds() string {
	s := ""
	for range c.Intn(4) {
		s += strings.Repeat(c.bytes(1, "\x7f\x7e"), 1+c.Intn(200)*c.Intn(2))
	}
	return s
}

// several are some things.
func several[T any](c chooser, each func() T) []T {
	var l []T
	for range c.Intn(5) {
		l = append(l, each())
	}
	return l
}

// instr is one that nests nothing.
func (c chooser) instr() api.Instr {
	i := api.Instr{Op: c.codes[c.Intn(len(c.codes))]}
	switch info, _ := op.Of(i.Op); info.Shape {
	case op.Label, op.Index:
		i.A = int64(c.word())
	case op.Labels:
		i.A, i.Labels = int64(c.word()), several(c, c.word)
	case op.Memory:
		i.A, i.B = int64(c.word()), int64(c.word())
	case op.Const:
		i.A = c.whole(32 << (i.Op - 0x41))
	}
	return i
}

// code is some, with an end.
func (c chooser) code(deep int) []api.Instr {
	var l []api.Instr
	for range c.Intn(4) {
		if c.Intn(3) > 0 || deep == 0 {
			l = append(l, c.instr())
			continue
		}
		open := api.Instr{Op: 2 + c.Intn(3), A: []int64{64, 127, 126}[c.Intn(3)]}
		l = append(l, open)
		inner := c.code(deep - 1)
		if open.Op == 4 && c.Intn(2) == 0 {
			inner = append(inner[:len(inner)-1], api.Instr{Op: 5})
			inner = append(inner, c.code(deep-1)...)
		}
		l = append(l, inner...)
	}
	return append(l, api.Instr{Op: 11})
}

func (c chooser) module() api.Module {
	return api.Module{
		Types: several(c, func() api.FuncType { return api.FuncType{Params: c.kinds(), Results: c.bytes(1, "\x7f\x7e")} }),
		Funcs: several(c, func() api.Func { return api.Func{Type: c.word(), Locals: c.kinds(), Code: c.code(3)} }),
		Memory: several(c, func() api.Memory {
			return api.Memory{Min: c.word(), Max: c.wordOrNone()}
		}),
		Globals: several(c, func() api.Global {
			wide := c.Intn(2)
			return api.Global{Type: 127 - wide, Mut: c.Intn(2) == 0, Init: c.whole(32 << wide)}
		}),
		Exports: several(c, func() api.Export {
			return api.Export{Name: c.bytes(200*c.Intn(2)+5, "ab\x00 "), Kind: []int{0, 2, 3}[c.Intn(3)], Index: c.word()}
		}),
		Start: c.wordOrNone(),
		Data: several(c, func() api.Data {
			return api.Data{Offset: int(c.whole(32)), Bytes: c.bytes(300*c.Intn(2)+3, "\x00\x0b\x7f\x80\xff")}
		}),
	}
}

// TestModuleAny: P5.2, P5.3: modules of all sorts: what is written is, byte by byte, as the chapter says, and holds all that was handed in; no two that differ have the same bytes.
func TestModuleAny(t *testing.T) {
	seen, c := map[string]api.Module{}, newChooser(1)
	for k := range 5000 {
		m := c.module()
		s := written(t, m)
		if back := read(t, s); !module.Same(back, m) {
			t.Fatalf("%d: %+v is written as %x, which is %+v", k, m, s, back)
		}
		if other, ok := seen[s]; ok && !module.Same(m, other) {
			t.Fatalf("%+v and %+v are both written as %x", m, other, s)
		}
		seen[s] = m
	}
	if len(seen) < 4500 {
		t.Error(len(seen))
	}
}

// TestModuleInstr: P5.2: an instruction stands in a module as Instr tells it.
func TestModuleInstr(t *testing.T) {
	c := newChooser(2)
	for range 2000 {
		i := c.instr()
		one, ok := enc.Instr(i)
		s := written(t, api.Module{Start: -1, Funcs: []api.Func{{Code: []api.Instr{i, {Op: 0x0b}}}}})
		if !ok || !strings.HasSuffix(s, "\x00"+one+"\x0b") || len(s) != 8+4+1+1+1+1+1+len(one)+1 {
			t.Errorf("%+v: %x, in %x", i, one, s)
		}
	}
}

// TestLists: P5.2, P5: a list of nothing is one, nil or not, wherever it stands.
func TestLists(t *testing.T) {
	for k := range 1 << 6 {
		m := whole()
		wipe := func(bit int, nothing, empty func()) {
			if k>>bit&1 == 0 {
				nothing()
			} else {
				empty()
			}
		}
		wipe(0, func() { m.Types = nil }, func() { m.Types = m.Types[:0] })
		wipe(1, func() { m.Funcs = nil }, func() { m.Funcs = m.Funcs[:0] })
		wipe(2, func() { m.Memory = nil }, func() { m.Memory = m.Memory[:0] })
		wipe(3, func() { m.Globals = nil }, func() { m.Globals = []api.Global{} })
		wipe(4, func() { m.Exports = nil }, func() { m.Exports = []api.Export{} })
		wipe(5, func() { m.Data = nil }, func() { m.Data = m.Data[:0] })
		if s, e := enc.Module(m); s != bytes(t, head+"08 01 01") || e != api.OK {
			t.Errorf("%b: %x %d", k, s, e)
		}
	}
}

// TestKeeps: P3: what is handed in is not written into, nor what stands behind it.
func TestKeeps(t *testing.T) {
	for _, c := range slices.Concat(changes(), wrongs()) {
		m, want := whole(), whole()
		c.do(&m)
		c.do(&want)
		enc.Module(m)
		for _, f := range m.Funcs[:min(len(m.Funcs), 100)] {
			for _, i := range f.Code {
				enc.Instr(i)
			}
		}
		if !reflect.DeepEqual(m, want) {
			t.Fatal(c.name)
		}
	}
	room := []int{3, 2, 1, 7, 8}
	l := []api.Instr{{Op: 14, Labels: room[:3]}, {Op: 11}, {Op: 77}, {Op: 78}}
	f := []api.Func{{Code: l[:2]}, {Type: 9}}
	d := []api.Data{{Bytes: "ab"}, {Bytes: "c"}}
	m := api.Module{Start: -1, Funcs: f[:1], Data: d[:1]}
	written(t, m)
	enc.Instr(l[0])
	if !slices.Equal(room, []int{3, 2, 1, 7, 8}) || l[2].Op != 77 || l[3].Op != 78 || f[1].Type != 9 || d[1].Bytes != "c" {
		t.Error(room, l, f, d)
	}
}

// TestBeside: P4: the calls keep nothing: what is asked ahead of them, or beside them, changes no answer.
func TestBeside(t *testing.T) {
	want := map[string]string{}
	for _, c := range changes() {
		m := whole()
		c.do(&m)
		want[c.name] = written(t, m)
	}
	var wait sync.WaitGroup
	for k := range 8 {
		wait.Go(func() {
			for range 10 {
				for _, c := range changes() {
					m := whole()
					c.do(&m)
					if s, e := enc.Module(m); s != want[c.name] || e != api.OK {
						t.Error(c.name)
					}
				}
				if s, ok := enc.Instr(api.Instr{Op: 0x41, A: int64(k)}); s != "\x41"+string(rune(k)) || !ok {
					t.Error("Instr " + strconv.Itoa(k))
				}
			}
		})
	}
	wait.Wait()
}
