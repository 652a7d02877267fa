package module_test

import (
	"math"
	"reflect"
	"slices"
	"strconv"
	"strings"
	"sync"
	"testing"
	"unicode/utf8"
	"unsafe"

	"tuckmill/api"
	"tuckmill/module"
	"tuckmill/op"
)

// code makes instructions out of names; a block's A is 64.
func code(t testing.TB, names string) []api.Instr {
	t.Helper()
	var l []api.Instr
	for _, name := range strings.Fields(names) {
		c, ok := op.Code(name)
		if !ok {
			t.Fatal(name)
		}
		i := api.Instr{Op: c}
		if info, _ := op.Of(c); info.Shape == op.Block {
			i.A = 64
		}
		l = append(l, i)
	}
	return l
}

// TestExample: the chapter's.
func TestExample(t *testing.T) {
	if !module.Structured(code(t, "end")) {
		t.Error("end")
	}
}

// TestStructuredKnown: P4.1, case by case.
func TestStructuredKnown(t *testing.T) {
	for _, c := range []struct {
		names string
		want  bool
	}{
		{"", false},
		{"end", true},
		{"nop", false},
		{"nop end", true},
		{"end nop", false},
		{"end end", false},
		{"nop end nop end", false},
		{"block end", false},
		{"block end end", true},
		{"loop end end", true},
		{"if end end", true},
		{"block", false},
		{"block block end end", false},
		{"block end end end", false},
		{"end block end", false},
		{"end block end end", false},
		{"block end loop end if end end", true},
		{"block loop if end end end end", true},
		{"if else end end", true},
		{"if else end", false},
		{"if nop else nop end nop end", true},
		{"if else else end end", false},
		{"if else end else end", false},
		{"if else if else end end end", true},
		{"if if else end else end end", true},
		{"if if end else end end", true},
		{"if if else else end end end", false},
		{"else", false},
		{"else end", false},
		{"else end end", false},
		{"end else", false},
		{"block else end end", false},
		{"loop else end end", false},
		{"if block else end end end", false},
		{"if loop else end end end", false},
		{"if block end else end end", true},
		{"if else block end end end", true},
		{"if else block else end end end", false},
		{"if end else end", false},
		{"unreachable br return end", true},
	} {
		if got := module.Structured(code(t, c.names)); got != c.want {
			t.Errorf("Structured(%s): %v", c.names, got)
		}
	}
}

// TestStructuredAny: what stands between is not asked to be right, and of what nests just the code counts.
func TestStructuredAny(t *testing.T) {
	odd := []api.Instr{{Op: -1}, {Op: 2, A: -7, B: 9, Labels: []int{-1}}, {Op: 1 << 40}, {Op: 4, A: 3}, {Op: 2 + 256}, {Op: 5, A: 1}, {Op: 11 + 1<<32}, {Op: 11, A: 64}, {Op: 17}, {Op: 11, B: 1}, {Op: math.MinInt}, {Op: 11, Labels: []int{5}}}
	if !module.Structured(odd) {
		t.Error("odd instructions")
	}
	if module.Structured(odd[:len(odd)-1]) || module.Structured(append(odd, api.Instr{Op: 11})) {
		t.Error("an end too few, or too many")
	}
}

// nested is P4.1 by rewriting: what is whole inside goes away, until the last end alone is left. (b, l, i, e, x: block, loop, if, else, end.)
func nested(s string) bool {
	s, ok := strings.CutSuffix(s, "x")
	if !ok {
		return false
	}
	away := strings.NewReplacer("n", "", "bx", "", "lx", "", "ix", "", "iex", "")
	for {
		shorter := away.Replace(s)
		if shorter == s {
			return s == ""
		}
		s = shorter
	}
}

// TestStructuredModel: all that can be made of up to seven of them.
func TestStructuredModel(t *testing.T) {
	const letters = "bliexn"
	codes := []int{2, 3, 4, 5, 11, 1}
	many := 1
	for length := range 8 {
		for n := range many {
			var l []api.Instr
			var s []byte
			for range length {
				l, s = append(l, api.Instr{Op: codes[n%6]}), append(s, letters[n%6])
				n /= 6
			}
			if got, want := module.Structured(l), nested(string(s)); got != want {
				t.Errorf("Structured(%s): %v", s, got)
			}
		}
		many *= 6
	}
}

// TestStructuredDeep: how deeply is not asked here.
func TestStructuredDeep(t *testing.T) {
	const deep = 1 << 18
	for _, c := range []struct{ open, inner, shut []api.Instr }{
		{code(t, "block"), nil, code(t, "end")},
		{code(t, "loop"), code(t, "nop"), code(t, "end")},
		{code(t, "if"), nil, code(t, "else end")},
	} {
		l := slices.Concat(slices.Repeat(c.open, deep), c.inner, slices.Repeat(c.shut, deep))
		if module.Structured(l) || !module.Structured(append(l, code(t, "end")...)) || module.Structured(append(l, code(t, "end end")...)) {
			t.Errorf("%d times %v", deep, c.open)
		}
	}
}

// TestName: P4.1: valid UTF-8, and nothing else.
func TestName(t *testing.T) {
	for _, c := range []struct {
		s    string
		want bool
	}{
		{"", true}, {"a", true}, {"\x00", true}, {"\x7f", true}, {"run it", true}, {"\u00e9", true}, {"\u20ac", true}, {"\U0001f600", true}, {"\U0010ffff", true}, {"\ufffd", true}, {"\ufeff", true}, {"\ud7ff\ue000", true},
		{"\x80", false}, {"\xbf", false}, {"\xff", false}, {"\xfe", false}, {"a\x80", false}, {"\x80a", false},
		{"\xc3", false}, {"\xe2\x82", false}, {"\xf0\x9f\x98", false}, {"\xe2\x82a", false},
		{"\xc0\x80", false}, {"\xc1\xbf", false}, {"\xe0\x80\x80", false}, {"\xf0\x80\x80\x80", false},
		{"\xed\xa0\x80", false}, {"\xed\xbf\xbf", false}, {"\xf4\x90\x80\x80", false}, {"\xf8\x88\x80\x80\x80", false},
		{strings.Repeat("\u20ac", 1<<16), true}, {strings.Repeat("\u20ac", 1<<16) + "\xe2", false},
	} {
		if got := module.Name(c.s); got != c.want {
			t.Errorf("Name(%.20q): %v", c.s, got)
		}
	}
	for n := range 1 << 16 {
		s := string([]byte{byte(n), byte(n >> 8)})
		if got := module.Name(s); got != utf8.ValidString(s) {
			t.Errorf("Name(%q): %v", s, got)
		}
	}
}

// whole is a module with something in each list; all of it is new.
func whole() api.Module {
	return api.Module{
		Types: []api.FuncType{{Params: "\x7f\x7e", Results: "\x7e"}, {}},
		Funcs: []api.Func{
			{Type: 0, Locals: "\x7e\x7f", Code: []api.Instr{{Op: 0x20}, {Op: 0x28, A: 2, B: 8}, {Op: 0x0e, A: 1, Labels: []int{0, 3}}, {Op: 0x42, A: -7}, {Op: 0x0b}}},
			{Type: 1, Code: []api.Instr{{Op: 0x0b}}},
		},
		Memory:  []api.Memory{{Min: 1, Max: 2}},
		Globals: []api.Global{{Type: 127, Mut: true, Init: -5}, {Type: 126, Init: 1 << 40}},
		Exports: []api.Export{{Name: "run", Kind: 0, Index: 1}, {Name: "mem", Kind: 2}, {Name: "g\u00e9", Kind: 3, Index: 1}},
		Start:   1,
		Data:    []api.Data{{Offset: 4, Bytes: "ab\xff"}, {}},
	}
}

// change is what is done to a whole module.
type change struct {
	name string
	do   func(m *api.Module)
}

// edge is a change, and whether what comes of it is right.
type edge struct {
	change
	want bool
}

// numbers are edges of a number that is to be one of these.
func numbers(name string, low, high int64, set func(m *api.Module, n int64)) []edge {
	var l []edge
	for _, n := range []int64{math.MinInt64, math.MinInt64 + 1, -1 << 40, -1<<32 - 1, -1 << 32, -1<<31 - 1, -1 << 31, -128, -2, -1, 0, 1, 2, 64, 127, 1<<31 - 1, 1 << 31, 1<<32 - 1, 1 << 32, 1<<32 + 1, 1 << 40, 1 << 62, math.MaxInt64 - 1, math.MaxInt64} {
		l = append(l, edge{change{name + " " + strconv.FormatInt(n, 10), func(m *api.Module) { set(m, n) }}, low <= n && n <= high})
	}
	return l
}

// texts are edges of a text that is to be value types, so many at most.
func texts(name string, most int, set func(m *api.Module, s string)) []edge {
	var l []edge
	add := func(what, s string, want bool) {
		l = append(l, edge{change{name + " " + what, func(m *api.Module) { set(m, s) }}, want})
	}
	for k := range 300 {
		s := string([]byte{byte(k)})
		if k < 256 {
			add("byte "+strconv.Itoa(k), s, most > 0 && (k == 127 || k == 126))
			add("byte behind "+strconv.Itoa(k), "\x7f"+s, most > 1 && (k == 127 || k == 126))
			add("byte between "+strconv.Itoa(k), "\x7e"+s+"\x7f", most > 2 && (k == 127 || k == 126))
		}
	}
	for _, n := range []int{0, 1, 2, 4095, 4096, 4097, 8192, 1 << 16} {
		add("of length "+strconv.Itoa(n), strings.Repeat("\x7f\x7e", (n+1)/2)[:n], n <= most)
	}
	add("of signs", "\u007f\u017f", false)
	return l
}

// lists are edges of how long a list may be.
func lists[T any](name string, most int, x T, list func(m *api.Module) *[]T) []edge {
	var l []edge
	for _, n := range []int{0, 1, 2, 4095, 4096, 4097, 10000} {
		l = append(l, edge{change{name + " of length " + strconv.Itoa(n), func(m *api.Module) { *list(m) = slices.Repeat([]T{x}, n) }}, n <= most})
	}
	return l
}

// The greatest number of 32 bits without a sign; the least and the greatest of those with one.
const (
	word  = 1<<32 - 1
	least = -1 << 31
	most  = 1<<31 - 1
)

// edges are those that P4.2 names.
func edges(t *testing.T) []edge {
	one := whole()
	return slices.Concat(
		lists("Types", 4096, one.Types[0], func(m *api.Module) *[]api.FuncType { return &m.Types }),
		lists("Funcs", 4096, one.Funcs[1], func(m *api.Module) *[]api.Func { return &m.Funcs }),
		lists("Memory", 4096, one.Memory[0], func(m *api.Module) *[]api.Memory { return &m.Memory }),
		lists("Globals", 4096, one.Globals[0], func(m *api.Module) *[]api.Global { return &m.Globals }),
		lists("Exports", 4096, one.Exports[0], func(m *api.Module) *[]api.Export { return &m.Exports }),
		lists("Data", 4096, one.Data[0], func(m *api.Module) *[]api.Data { return &m.Data }),
		texts("Params", 4096, func(m *api.Module, s string) { m.Types[0].Params = s }),
		texts("last Params", 4096, func(m *api.Module, s string) { m.Types[1].Params = s }),
		texts("Results", 1, func(m *api.Module, s string) { m.Types[0].Results = s }),
		texts("last Results", 1, func(m *api.Module, s string) { m.Types[1].Results = s }),
		texts("Locals", 4096, func(m *api.Module, s string) { m.Funcs[0].Locals = s }),
		texts("last Locals", 4096, func(m *api.Module, s string) { m.Funcs[1].Locals = s }),
		numbers("Type", 0, word, func(m *api.Module, n int64) { m.Funcs[0].Type = int(n) }),
		numbers("last Type", 0, word, func(m *api.Module, n int64) { m.Funcs[1].Type = int(n) }),
		numbers("Min", 0, word, func(m *api.Module, n int64) { m.Memory[0].Min = int(n) }),
		numbers("Max", -1, word, func(m *api.Module, n int64) { m.Memory[0].Max = int(n) }),
		numbers("second Min", 0, word, func(m *api.Module, n int64) { m.Memory = append(m.Memory, api.Memory{Min: int(n)}) }),
		numbers("second Max", -1, word, func(m *api.Module, n int64) { m.Memory = append(m.Memory, api.Memory{Max: int(n)}) }),
		numbers("global's type", 126, 127, func(m *api.Module, n int64) { m.Globals = []api.Global{{Type: int(n)}} }),
		numbers("I32's Init", least, most, func(m *api.Module, n int64) { m.Globals[0].Init = n }),
		numbers("I64's Init", math.MinInt64, math.MaxInt64, func(m *api.Module, n int64) { m.Globals[1].Init = n }),
		numbers("last I32's Init", least, most, func(m *api.Module, n int64) { m.Globals[1] = api.Global{Type: 127, Init: n} }),
		numbers("Index", 0, word, func(m *api.Module, n int64) { m.Exports[0].Index = int(n) }),
		numbers("last Index", 0, word, func(m *api.Module, n int64) { m.Exports[2].Index = int(n) }),
		numbers("Start", -1, word, func(m *api.Module, n int64) { m.Start = int(n) }),
		numbers("Offset", least, most, func(m *api.Module, n int64) { m.Data[0].Offset = int(n) }),
		numbers("last Offset", least, most, func(m *api.Module, n int64) { m.Data[1].Offset = int(n) }),
		codes(t), others(),
	)
}

// codes are edges of a function's code.
func codes(t *testing.T) []edge {
	put := func(l ...api.Instr) func(m *api.Module) {
		return func(m *api.Module) { m.Funcs[1].Code = append(l, api.Instr{Op: 0x0b}) }
	}
	return []edge{
		{change{"no code", func(m *api.Module) { m.Funcs[0].Code = nil }}, false},
		{change{"no end", func(m *api.Module) { m.Funcs[0].Code = code(t, "nop") }}, false},
		{change{"no end, the last one", func(m *api.Module) { m.Funcs[1].Code = code(t, "block end") }}, false},
		{change{"too many ends", func(m *api.Module) { m.Funcs[0].Code = code(t, "end end") }}, false},
		{change{"an else in none", func(m *api.Module) { m.Funcs[0].Code = code(t, "else end") }}, false},
		{change{"nested", func(m *api.Module) { m.Funcs[0].Code = code(t, "if else loop end end end") }}, true},
		{change{"an end with A", func(m *api.Module) { m.Funcs[0].Code = []api.Instr{{Op: 0x0b, A: 1}} }}, false},
		{change{"a block of 0", put(api.Instr{Op: 2}, api.Instr{Op: 0x0b})}, false},
		{change{"a block of 64", put(api.Instr{Op: 2, A: 64}, api.Instr{Op: 0x0b})}, true},
		{change{"no such code", put(api.Instr{Op: 0x06})}, false},
		{change{"a code of floats", put(api.Instr{Op: 0x92})}, false},
		{change{"call_indirect", put(api.Instr{Op: 0x11})}, false},
		{change{"too great a const", put(api.Instr{Op: 0x41, A: 1 << 31})}, false},
		{change{"a const", put(api.Instr{Op: 0x41, A: -1 << 31})}, true},
		{change{"a label below 0", put(api.Instr{Op: 0x0e, Labels: []int{0, -1}})}, false},
		{change{"as many labels as there may be", put(api.Instr{Op: 0x0e, Labels: make([]int, 4096)})}, true},
		{change{"too many labels", put(api.Instr{Op: 0x0e, Labels: make([]int, 4097)})}, false},
		{change{"labels of a nop", put(api.Instr{Op: 1, Labels: []int{0}})}, false},
		{change{"much code", put(slices.Repeat([]api.Instr{{Op: 1}}, 20000)...)}, true},
		{change{"much code, the last of it wrong", put(append(slices.Repeat([]api.Instr{{Op: 1}}, 20000), api.Instr{Op: 1, B: 1})...)}, false},
		{change{"deep", put(slices.Concat(slices.Repeat(code(t, "block"), 300), slices.Repeat(code(t, "end"), 300))...)}, true},
		{change{"what is not valid, but may be written", put(code(t, "i32.add drop call")...)}, true},
	}
}

// others are the edges of what is left.
func others() []edge {
	l := []edge{
		{change{"nothing done", func(*api.Module) {}}, true},
		{change{"nothing in it", func(m *api.Module) { *m = api.Module{Start: -1} }}, true},
		{change{"nothing in it, Start 0", func(m *api.Module) { *m = api.Module{} }}, true},
		{change{"empty lists", func(m *api.Module) {
			*m = api.Module{Types: []api.FuncType{}, Funcs: []api.Func{}, Memory: []api.Memory{}, Globals: []api.Global{}, Exports: []api.Export{}, Data: []api.Data{}}
		}}, true},
		{change{"a name of nothing", func(m *api.Module) { m.Exports[0].Name = "" }}, true},
		{change{"a name that is none", func(m *api.Module) { m.Exports[0].Name = "a\xff" }}, false},
		{change{"a last name that is none", func(m *api.Module) { m.Exports[2].Name = "\xed\xa0\x80" }}, false},
		{change{"a long name", func(m *api.Module) { m.Exports[0].Name = strings.Repeat("n", 1<<20+1) }}, true},
		{change{"one name twice", func(m *api.Module) { m.Exports[0].Name = m.Exports[1].Name }}, true},
		{change{"many bytes of data", func(m *api.Module) { m.Data[0].Bytes = strings.Repeat("\x80", 1<<20+1) }}, true},
		{change{"Max below Min", func(m *api.Module) { m.Memory[0] = api.Memory{Min: 5, Max: 1} }}, true},
		{change{"data, and no memory", func(m *api.Module) { m.Memory = nil }}, true},
	}
	for _, kind := range []int{math.MinInt, -1, 0, 1, 2, 3, 4, 127, 256, 1 << 32, 1<<32 + 2, math.MaxInt} {
		for at := range 3 {
			name := "kind " + strconv.Itoa(kind) + " at " + strconv.Itoa(at)
			l = append(l, edge{change{name, func(m *api.Module) { m.Exports[at].Kind = kind }}, kind == 0 || kind == 2 || kind == 3})
		}
	}
	for _, kind := range []int{-127, 0, 64, 124, 125, 126, 127, 128, 127 + 256, 126 + 1<<32} {
		l = append(l, edge{change{"a last global's type " + strconv.Itoa(kind), func(m *api.Module) { m.Globals[1] = api.Global{Type: kind} }}, kind == 126 || kind == 127})
	}
	return l
}

// TestRight: P4.2: a right module, and each of its parts at its edges.
func TestRight(t *testing.T) {
	for _, e := range edges(t) {
		m := whole()
		e.do(&m)
		if got := module.Right(m); got != e.want {
			t.Errorf("Right, %s: %v", e.name, got)
		}
	}
}

// changes each make another module of a whole one.
func changes() []change {
	return []change{
		{"Params", func(m *api.Module) { m.Types[0].Params = "\x7f\x7f" }},
		{"fewer Params", func(m *api.Module) { m.Types[0].Params = "\x7f" }},
		{"Results", func(m *api.Module) { m.Types[0].Results = "" }},
		{"last Params", func(m *api.Module) { m.Types[1].Params = "\x7f" }},
		{"last Results", func(m *api.Module) { m.Types[1].Results = "\x7f" }},
		{"Params for Results", func(m *api.Module) { m.Types[0] = api.FuncType{Params: "\x7e", Results: "\x7f\x7e"} }},
		{"Type", func(m *api.Module) { m.Funcs[0].Type = 1 }},
		{"last Type", func(m *api.Module) { m.Funcs[1].Type = 1 + 1<<32 }},
		{"Locals", func(m *api.Module) { m.Funcs[0].Locals = "\x7f\x7e" }},
		{"no Locals", func(m *api.Module) { m.Funcs[0].Locals = "" }},
		{"last Locals", func(m *api.Module) { m.Funcs[1].Locals = "\x7f" }},
		{"Op", func(m *api.Module) { m.Funcs[0].Code[0].Op = 0x21 }},
		{"A", func(m *api.Module) { m.Funcs[0].Code[3].A = -8 }},
		{"a far A", func(m *api.Module) { m.Funcs[0].Code[3].A = -7 + 1<<33 }},
		{"B", func(m *api.Module) { m.Funcs[0].Code[1].B = 9 }},
		{"a B of another one", func(m *api.Module) { m.Funcs[0].Code[0].B = 1 }},
		{"A for B", func(m *api.Module) { m.Funcs[0].Code[1].A, m.Funcs[0].Code[1].B = 8, 2 }},
		{"a label", func(m *api.Module) { m.Funcs[0].Code[2].Labels[1] = 2 }},
		{"fewer labels", func(m *api.Module) { m.Funcs[0].Code[2].Labels = m.Funcs[0].Code[2].Labels[:1] }},
		{"no labels", func(m *api.Module) { m.Funcs[0].Code[2].Labels = nil }},
		{"labels of another one", func(m *api.Module) { m.Funcs[0].Code[0].Labels = []int{0} }},
		{"labels turned about", func(m *api.Module) { slices.Reverse(m.Funcs[0].Code[2].Labels) }},
		{"less code", func(m *api.Module) { m.Funcs[0].Code = m.Funcs[0].Code[:4] }},
		{"more code", func(m *api.Module) { m.Funcs[1].Code = append(m.Funcs[1].Code, api.Instr{}) }},
		{"no code", func(m *api.Module) { m.Funcs[1].Code = nil }},
		{"code turned about", func(m *api.Module) { slices.Reverse(m.Funcs[0].Code) }},
		{"functions turned about", func(m *api.Module) { slices.Reverse(m.Funcs) }},
		{"Min", func(m *api.Module) { m.Memory[0].Min = 0 }},
		{"Max", func(m *api.Module) { m.Memory[0].Max = -1 }},
		{"more memory", func(m *api.Module) { m.Memory = append(m.Memory, api.Memory{}) }},
		{"a global's type", func(m *api.Module) { m.Globals[0].Type = 126 }},
		{"Mut", func(m *api.Module) { m.Globals[0].Mut = false }},
		{"last Mut", func(m *api.Module) { m.Globals[1].Mut = true }},
		{"Init", func(m *api.Module) { m.Globals[0].Init = 5 }},
		{"last Init", func(m *api.Module) { m.Globals[1].Init = 1 << 41 }},
		{"Name", func(m *api.Module) { m.Exports[0].Name = "ruN" }},
		{"no Name", func(m *api.Module) { m.Exports[0].Name = "" }},
		{"Kind", func(m *api.Module) { m.Exports[1].Kind = 0 }},
		{"Index", func(m *api.Module) { m.Exports[2].Index = 0 }},
		{"exports turned about", func(m *api.Module) { slices.Reverse(m.Exports) }},
		{"Start", func(m *api.Module) { m.Start = -1 }},
		{"Offset", func(m *api.Module) { m.Data[0].Offset = 5 }},
		{"last Offset", func(m *api.Module) { m.Data[1].Offset = -1 }},
		{"Bytes", func(m *api.Module) { m.Data[0].Bytes = "ab\xfe" }},
		{"last Bytes", func(m *api.Module) { m.Data[1].Bytes = "\x00" }},
		{"no types", func(m *api.Module) { m.Types = nil }},
		{"no functions", func(m *api.Module) { m.Funcs = nil }},
		{"no memory", func(m *api.Module) { m.Memory = nil }},
		{"no globals", func(m *api.Module) { m.Globals = nil }},
		{"no exports", func(m *api.Module) { m.Exports = nil }},
		{"no data", func(m *api.Module) { m.Data = nil }},
		{"fewer types", func(m *api.Module) { m.Types = m.Types[:1] }},
		{"more types", func(m *api.Module) { m.Types = append(m.Types, api.FuncType{}) }},
		{"fewer functions", func(m *api.Module) { m.Funcs = m.Funcs[:1] }},
		{"more functions", func(m *api.Module) { m.Funcs = append(m.Funcs, api.Func{}) }},
		{"fewer globals", func(m *api.Module) { m.Globals = m.Globals[:1] }},
		{"more globals", func(m *api.Module) { m.Globals = append(m.Globals, api.Global{}) }},
		{"fewer exports", func(m *api.Module) { m.Exports = m.Exports[:2] }},
		{"more exports", func(m *api.Module) { m.Exports = append(m.Exports, api.Export{}) }},
		{"fewer data", func(m *api.Module) { m.Data = m.Data[:1] }},
		{"more data", func(m *api.Module) { m.Data = append(m.Data, api.Data{}) }},
	}
}

// TestSame: P4.3: a whole module is the same as another such one; no change goes unseen, in whichever of the two.
func TestSame(t *testing.T) {
	if !module.Same(whole(), whole()) {
		t.Error("two whole ones")
	}
	for k, c := range changes() {
		a, b := whole(), whole()
		c.do(&b)
		if module.Same(a, b) || module.Same(b, a) {
			t.Errorf("%s goes unseen", c.name)
		}
		if again := whole(); !module.Same(b, b) {
			t.Errorf("%s: not the same as itself", c.name)
		} else if c.do(&again); !module.Same(b, again) {
			t.Errorf("%s: not the same as done again", c.name)
		}
		for _, d := range changes()[k+1:] {
			other := whole()
			d.do(&other)
			if got, want := module.Same(b, other), reflect.DeepEqual(b, other); got != want {
				t.Errorf("%s, and %s: %v", c.name, d.name, got)
			}
		}
	}
}

// bare is a module all of whose lists are nil, or all are empty.
func bare(empty bool) api.Module {
	if !empty {
		return api.Module{Start: -1}
	}
	return api.Module{Types: []api.FuncType{}, Funcs: []api.Func{}, Memory: []api.Memory{}, Globals: []api.Global{}, Exports: []api.Export{}, Start: -1, Data: []api.Data{}}
}

// TestSameNothing: P4.3: a list of nothing is one, nil or not, wherever it stands.
func TestSameNothing(t *testing.T) {
	for _, a := range []bool{false, true} {
		for _, b := range []bool{false, true} {
			if !module.Same(bare(a), bare(b)) {
				t.Errorf("lists that are empty: %v, %v", a, b)
			}
			one, two := bare(a), bare(b)
			one.Funcs, two.Funcs = []api.Func{{}}, []api.Func{{Code: []api.Instr{}}}
			if !module.Same(one, two) || !module.Same(two, one) {
				t.Errorf("code that is empty: %v, %v", a, b)
			}
			one.Funcs[0].Code, two.Funcs[0].Code = []api.Instr{{Op: 14}}, []api.Instr{{Op: 14, Labels: make([]int, 3)[:0]}}
			if !module.Same(one, two) || !module.Same(two, one) {
				t.Errorf("labels that are empty: %v, %v", a, b)
			}
		}
	}
	a, b := bare(false), bare(true)
	if b.Start = 0; module.Same(a, b) {
		t.Error("Start goes unseen")
	}
}

// TestCopy: P4.3, P4.4: a copy is the same, whatever is done to it, or to what it is one of, after that.
func TestCopy(t *testing.T) {
	for _, c := range changes() {
		m := whole()
		made := module.Copy(m)
		if !module.Same(m, made) || !reflect.DeepEqual(m, made) {
			t.Fatalf("%+v", made)
		}
		c.do(&m)
		if !reflect.DeepEqual(made, whole()) {
			t.Errorf("%s is seen in the copy", c.name)
		}
		again := module.Copy(m)
		if !module.Same(m, again) || !reflect.DeepEqual(m, again) {
			t.Errorf("%s: not the same", c.name)
		}
		n := whole()
		made = module.Copy(n)
		c.do(&made)
		if !reflect.DeepEqual(n, whole()) {
			t.Errorf("%s in the copy is seen in what was copied", c.name)
		}
	}
}

// TestCopyOdd: what is not right is copied too, and so is nothing.
func TestCopyOdd(t *testing.T) {
	for _, e := range edges(t) {
		m := whole()
		e.do(&m)
		if made := module.Copy(m); !module.Same(m, made) || module.Right(made) != e.want {
			t.Errorf("Copy, %s", e.name)
		}
	}
	for _, m := range []api.Module{{}, bare(false), bare(true)} {
		if made := module.Copy(m); !module.Same(m, made) {
			t.Errorf("%+v", made)
		}
	}
}

// roomy is a list with much spare room behind it.
func roomy[T any](l []T) []T { return append(make([]T, 0, len(l)+8), l...) }

// spare writes into all room behind a list.
func spare[T any](l []T, x T) {
	for k := len(l); k < cap(l); k++ {
		l[: k+1 : cap(l)][k] = x
	}
}

// TestCopyRoom: P3: a copy's room, spare room too, is its own.
func TestCopyRoom(t *testing.T) {
	m := whole()
	m.Types, m.Funcs, m.Memory, m.Globals, m.Exports, m.Data = roomy(m.Types), roomy(m.Funcs), roomy(m.Memory), roomy(m.Globals), roomy(m.Exports), roomy(m.Data)
	m.Funcs[0].Code = roomy(m.Funcs[0].Code)
	m.Funcs[0].Code[2].Labels = roomy(m.Funcs[0].Code[2].Labels)
	empty := m
	empty.Types, empty.Funcs, empty.Memory, empty.Globals, empty.Exports, empty.Data = m.Types[:0], m.Funcs[:0], m.Memory[:0], m.Globals[:0], m.Exports[:0], m.Data[:0]
	for _, made := range []api.Module{module.Copy(m), module.Copy(empty)} {
		spare(made.Types, api.FuncType{Params: "x"})
		spare(made.Memory, api.Memory{Min: 9})
		spare(made.Globals, api.Global{Type: 9})
		spare(made.Exports, api.Export{Name: "x"})
		spare(made.Data, api.Data{Bytes: "x"})
		for _, f := range made.Funcs {
			for _, i := range f.Code {
				spare(i.Labels, 9)
			}
			spare(f.Code, api.Instr{Op: 9})
		}
		spare(made.Funcs, api.Func{Type: 9})
	}
	if !reflect.DeepEqual(m, whole()) || m.Types[:3][2].Params != "" || m.Funcs[:3][2].Type != 0 || m.Memory[:2][1].Min != 0 || m.Globals[:3][2].Type != 0 || m.Exports[:4][3].Name != "" || m.Data[:3][2].Bytes != "" {
		t.Errorf("%+v", m)
	}
	if l := m.Funcs[0].Code; l[:6][5].Op != 0 || l[2].Labels[:3][2] != 0 {
		t.Errorf("%+v", l)
	}
}

// TestCopyTexts: a copy keeps no piece of a text that what was copied has.
func TestCopyTexts(t *testing.T) {
	m := whole()
	made := module.Copy(m)
	for k, pair := range [][2]string{{m.Types[0].Params, made.Types[0].Params}, {m.Types[0].Results, made.Types[0].Results}, {m.Funcs[0].Locals, made.Funcs[0].Locals}, {m.Exports[0].Name, made.Exports[0].Name}, {m.Data[0].Bytes, made.Data[0].Bytes}} {
		if unsafe.StringData(pair[0]) == unsafe.StringData(pair[1]) {
			t.Errorf("text %d", k)
		}
	}
}

// TestTextKnown: P4.3, case by case.
func TestTextKnown(t *testing.T) {
	for _, c := range []struct {
		i    api.Instr
		want string // nothing, if it is not right
	}{
		{api.Instr{Op: 0x00}, "unreachable"},
		{api.Instr{Op: 0x0b}, "end"},
		{api.Instr{Op: 0x05, Labels: []int{}}, "else"},
		{api.Instr{Op: 0x02, A: 64}, "block"},
		{api.Instr{Op: 0x03, A: 127}, "loop i32"},
		{api.Instr{Op: 0x04, A: 126}, "if i64"},
		{api.Instr{Op: 0x02, A: 126}, "block i64"},
		{api.Instr{Op: 0x0c}, "br 0"},
		{api.Instr{Op: 0x0d, A: 1<<32 - 1}, "br_if 4294967295"},
		{api.Instr{Op: 0x0e}, "br_table 0"},
		{api.Instr{Op: 0x0e, A: 7}, "br_table 7"},
		{api.Instr{Op: 0x0e, A: 1, Labels: []int{0, 12, 1<<32 - 1}}, "br_table 0 12 4294967295 1"},
		{api.Instr{Op: 0x0e, A: 4, Labels: make([]int, 4096)}, "br_table" + strings.Repeat(" 0", 4096) + " 4"},
		{api.Instr{Op: 0x0f}, "return"},
		{api.Instr{Op: 0x10, A: 3}, "call 3"},
		{api.Instr{Op: 0x20}, "local.get 0"},
		{api.Instr{Op: 0x24, A: 10}, "global.set 10"},
		{api.Instr{Op: 0x28}, "i32.load offset=0 align=0"},
		{api.Instr{Op: 0x29, A: 3, B: 16}, "i64.load offset=16 align=3"},
		{api.Instr{Op: 0x3e, A: 1<<32 - 1, B: 1<<32 - 2}, "i64.store32 offset=4294967294 align=4294967295"},
		{api.Instr{Op: 0x3f}, "memory.size"},
		{api.Instr{Op: 0x40}, "memory.grow"},
		{api.Instr{Op: 0x41}, "i32.const 0"},
		{api.Instr{Op: 0x41, A: -1 << 31}, "i32.const -2147483648"},
		{api.Instr{Op: 0x42, A: math.MaxInt64}, "i64.const 9223372036854775807"},
		{api.Instr{Op: 0x42, A: math.MinInt64}, "i64.const -9223372036854775808"},
		{api.Instr{Op: 0x6a}, "i32.add"},
		{api.Instr{Op: 0xad}, "i64.extend_i32_u"},
		{api.Instr{Op: -1}, ""},
		{api.Instr{Op: 0x06}, ""},
		{api.Instr{Op: 0x11}, ""},
		{api.Instr{Op: 0x43}, ""},
		{api.Instr{Op: 0x0b + 256}, ""},
		{api.Instr{Op: 0x0b, A: 1}, ""},
		{api.Instr{Op: 0x0b, B: 1}, ""},
		{api.Instr{Op: 0x0b, Labels: []int{0}}, ""},
		{api.Instr{Op: 0x02}, ""},
		{api.Instr{Op: 0x02, A: 125}, ""},
		{api.Instr{Op: 0x0c, A: -1}, ""},
		{api.Instr{Op: 0x0e, Labels: []int{0, -1}}, ""},
		{api.Instr{Op: 0x0e, Labels: make([]int, 4097)}, ""},
		{api.Instr{Op: 0x28, B: 1 << 32}, ""},
		{api.Instr{Op: 0x3f, A: 1}, ""},
		{api.Instr{Op: 0x41, A: 1 << 31}, ""},
	} {
		if got, ok := module.Text(c.i); got != c.want || ok != (c.want != "") {
			t.Errorf("Text(%.60v): %.60q %v", c.i, got, ok)
		}
	}
}

// spelt is what P4.3 says of an instruction that is right, by its shape.
func spelt(info op.Info, i api.Instr) string {
	a, b := strconv.FormatInt(i.A, 10), strconv.FormatInt(i.B, 10)
	switch info.Shape {
	case op.Block:
		return info.Name + map[int64]string{64: "", 127: " i32", 126: " i64"}[i.A]
	case op.Memory:
		return info.Name + " offset=" + b + " align=" + a
	case op.Plain, op.Zero:
		return info.Name
	}
	s := info.Name
	for _, n := range i.Labels {
		s += " " + strconv.Itoa(n)
	}
	return s + " " + a
}

// TestText: P4.3: each code, with numbers of all sorts: false just where it is not right.
func TestText(t *testing.T) {
	sorts := []int64{math.MinInt64, -1 << 31, -1, 0, 1, 2, 63, 64, 126, 127, 1<<31 - 1, 1 << 31, 1<<32 - 1, 1 << 32, math.MaxInt64}
	told := map[int]int{}
	for c := -2; c < 300; c++ {
		for _, a := range sorts {
			for _, b := range sorts {
				for _, labels := range [][]int{nil, {}, {0}, {3, 0, 1<<32 - 1}, {-1}} {
					i := api.Instr{Op: c, A: a, B: b, Labels: labels}
					want := ""
					if op.Right(i) {
						info, _ := op.Of(c)
						want = spelt(info, i)
						told[c]++
					}
					if got, ok := module.Text(i); got != want || ok != (want != "") {
						t.Errorf("Text(%+v): %q %v, not %q", i, got, ok, want)
					}
				}
			}
		}
	}
	if len(told) != 103 {
		t.Error(len(told))
	}
}

// TestKeeps: P3: what is handed in is not written into, nor what stands behind it.
func TestKeeps(t *testing.T) {
	for _, e := range edges(t) {
		m, want := whole(), whole()
		e.do(&m)
		e.do(&want)
		module.Right(m)
		module.Same(m, want)
		module.Copy(m)
		for _, f := range m.Funcs {
			module.Structured(f.Code)
			for _, i := range f.Code[:min(len(f.Code), 100)] {
				module.Text(i)
			}
		}
		if !reflect.DeepEqual(m, want) {
			t.Fatal(e.name)
		}
	}
	room := []int{3, 2, 1, 7, 8}
	l := []api.Instr{{Op: 14, Labels: room[:3]}, {Op: 11}, {Op: 77}, {Op: 78}}
	m := api.Module{Start: -1, Funcs: []api.Func{{Code: l[:2]}}}
	if !module.Right(m) || !module.Structured(l[:2]) || !module.Same(m, module.Copy(m)) {
		t.Error("a module with room behind its lists")
	}
	module.Text(l[0])
	if !slices.Equal(room, []int{3, 2, 1, 7, 8}) || l[2].Op != 77 || l[3].Op != 78 {
		t.Error(room, l)
	}
}

// TestBeside: P4: the calls keep nothing: what is asked beside them changes no answer.
func TestBeside(t *testing.T) {
	m := whole()
	var wait sync.WaitGroup
	for range 8 {
		wait.Go(func() {
			for range 50 {
				made := module.Copy(m)
				if !module.Right(made) || !module.Same(m, made) || !module.Structured(m.Funcs[0].Code) || !module.Name(m.Exports[2].Name) {
					t.Error("another answer")
				}
				if s, ok := module.Text(m.Funcs[0].Code[1]); s != "i32.load offset=8 align=2" || !ok {
					t.Error(s, ok)
				}
			}
		})
	}
	wait.Wait()
}
