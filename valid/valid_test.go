package valid_test

import (
	"math"
	"reflect"
	"slices"
	"strconv"
	"strings"
	"sync"
	"testing"

	"tuckmill/api"
	"tuckmill/module"
	"tuckmill/op"
	"tuckmill/valid"
)

// code makes instructions out of a text: they are parted by semicolons; behind each name stand its numbers, of br_table the labels, the last of them A; of a block i32, i64 or nothing. The function's end is put behind them.
func code(t testing.TB, text string) []api.Instr {
	t.Helper()
	var l []api.Instr
	for _, line := range strings.Split(text+"; end", ";") {
		words := strings.Fields(line)
		if len(words) == 0 {
			continue
		}
		l = append(l, instr(t, words[0], words[1:]))
	}
	return l
}

func instr(t testing.TB, name string, words []string) api.Instr {
	t.Helper()
	c, ok := op.Code(name)
	if !ok {
		t.Fatal(name)
	}
	i := api.Instr{Op: c}
	info, _ := op.Of(c)
	if info.Shape == op.Block {
		i.A = map[string]int64{"": 64, "i32": 127, "i64": 126}[strings.Join(words, " ")]
		return i
	}
	var l []int64
	for _, w := range words {
		n, err := strconv.ParseInt(w, 0, 64)
		if err != nil {
			t.Fatal(name, err)
		}
		l = append(l, n)
	}
	for info.Shape == op.Labels && len(l) > 1 {
		i.Labels, l = append(i.Labels, int(l[0])), l[1:]
	}
	if len(l) > 0 {
		i.A = l[0]
	}
	if len(l) > 1 {
		i.B = l[1]
	}
	if !op.Right(i) {
		t.Fatal(name, words)
	}
	return i
}

// The types of world, by what they take and answer (n nothing, i an i32, l an i64).
const (
	nn = iota
	ni
	nl
	ii
	ilL // takes an i32 and an i64, answers an i64
	liN // takes an i64 and an i32, answers nothing
)

// world is a module whose parts the functions under test may name; the number of each of its functions is that of its type.
func world() api.Module {
	m := api.Module{
		Types:   []api.FuncType{{}, {Results: "\x7f"}, {Results: "\x7e"}, {Params: "\x7f", Results: "\x7f"}, {Params: "\x7f\x7e", Results: "\x7e"}, {Params: "\x7e\x7f"}},
		Memory:  []api.Memory{{Min: 1, Max: -1}},
		Globals: []api.Global{{Type: 127, Mut: true}, {Type: 126}, {Type: 126, Mut: true}, {Type: 127}},
		Start:   -1,
	}
	bodies := []string{"\x0b", "\x00\x0b", "\x00\x0b", "\x00\x0b", "\x00\x0b", "\x0b"}
	for k, b := range bodies {
		f := api.Func{Type: k}
		for _, c := range []byte(b) {
			f.Code = append(f.Code, api.Instr{Op: int(c)})
		}
		m.Funcs = append(m.Funcs, f)
	}
	return m
}

// fit is a function's code, and whether it is valid in world.
type fit struct {
	kind   int // its type
	locals string
	text   string
	want   bool
}

func (c fit) run(t *testing.T) {
	t.Helper()
	want := api.ErrType
	if c.want {
		want = api.OK
	}
	m, f := world(), api.Func{Type: c.kind, Locals: c.locals, Code: code(t, c.text)}
	if e := valid.Func(m, f); e != want {
		t.Errorf("Func of type %d, locals %x, %s: %d, not %d", c.kind, c.locals, c.text, e, want)
	}
	if e := valid.Func(m, f); e != want {
		t.Errorf("Func of type %d, locals %x, %s, again: %d, not %d", c.kind, c.locals, c.text, e, want)
	}
	m.Funcs = append(m.Funcs, f)
	if e := valid.Module(m); e != want {
		t.Errorf("Module with a function of type %d, locals %x, %s: %d, not %d", c.kind, c.locals, c.text, e, want)
	}
	m.Funcs = append([]api.Func{f}, m.Funcs...) // what is called are others then
	if e := valid.Module(m); !strings.Contains(c.text, "call") && e != want {
		t.Errorf("Module with a function of type %d, locals %x, %s, first of all: %d, not %d", c.kind, c.locals, c.text, e, want)
	}
}

func runAll(t *testing.T, l []fit) {
	t.Helper()
	for _, c := range l {
		c.run(t)
	}
}

// TestExample: the chapter's.
func TestExample(t *testing.T) {
	if e := valid.Module(api.Module{Start: -1}); e != api.OK {
		t.Error(e)
	}
}

// TestWorld: what the cases stand on.
func TestWorld(t *testing.T) {
	if e := valid.Module(world()); e != api.OK {
		t.Error(e)
	}
}

// TestNestKnown: P7.1, case by case.
func TestNestKnown(t *testing.T) {
	for _, c := range []struct {
		ops  string
		want int
	}{
		{"", 0}, {"\x0b", 0}, {"\x0b\x0b\x0b", 0}, {"\x01\x00\x05\x0c\x10\x6a", 0},
		{"\x02", 1}, {"\x03", 1}, {"\x04", 1}, {"\x02\x0b", 1}, {"\x02\x0b\x0b", 1}, {"\x04\x05\x0b\x0b", 1},
		{"\x02\x03\x04", 3}, {"\x02\x0b\x03\x0b\x04\x0b", 1}, {"\x02\x03\x0b\x04\x0b\x0b", 2}, {"\x02\x03\x04\x0b\x0b\x0b\x02", 3},
		{"\x0b\x02", 0}, {"\x0b\x0b\x02\x03\x04", 1}, {"\x0b\x02\x02", 1}, {"\x0b\x0b\x0b\x0b\x02\x02\x02", 0}, {"\x02\x0b\x0b\x0b\x03\x03\x03", 1}, {"\x02\x02\x0b\x0b\x0b\x02\x02\x02\x02", 3},
	} {
		var l []api.Instr
		for _, b := range []byte(c.ops) {
			l = append(l, api.Instr{Op: int(b)})
		}
		if got := valid.Nest(l); got != c.want {
			t.Errorf("Nest(%x): %d, not %d", c.ops, got, c.want)
		}
	}
}

// TestNestAny: P7.1: just the code of an instruction counts, whatever else it is.
func TestNestAny(t *testing.T) {
	odd := []api.Instr{{Op: 2 + 256}, {Op: -2}, {Op: 2 + 1<<32}, {Op: math.MinInt + 3}, {Op: math.MaxInt}, {Op: 11 + 1<<32}, {Op: -11}, {Op: 3, A: -9, B: 4, Labels: []int{-1, 7}}, {Op: 4, B: 11}, {Op: 0x20, A: 2}, {Op: 11, A: 1, B: -1, Labels: []int{2}}, {Op: 2, A: math.MinInt64}}
	if got := valid.Nest(odd); got != 2 {
		t.Error(got)
	}
	if valid.Nest(nil) != 0 || valid.Nest([]api.Instr{}) != 0 {
		t.Error("no code")
	}
}

// TestNestModel: P7.1: all that can be made of up to seven instructions; what a piece that ends anywhere, begun at the front, has more of is the count.
func TestNestModel(t *testing.T) {
	ops := []int{2, 3, 4, 11, 5}
	many := 1
	for length := range 8 {
		for n := range many {
			l := make([]api.Instr, length)
			for k := range l {
				l[k].Op = ops[n%5]
				n /= 5
			}
			want := 0
			for k := range l {
				opened := slices.DeleteFunc(slices.Clone(l[:k+1]), func(i api.Instr) bool { return i.Op > 4 })
				closed := slices.DeleteFunc(slices.Clone(l[:k+1]), func(i api.Instr) bool { return i.Op != 11 })
				want = max(want, len(opened)-len(closed))
			}
			if got := valid.Nest(l); got != want {
				t.Fatalf("Nest(%v): %d, not %d", l, got, want)
			}
		}
		many *= 5
	}
}

// TestNestDeep: P7.1: no limit holds in Nest.
func TestNestDeep(t *testing.T) {
	const deep = 1 << 18
	down, up := slices.Repeat([]api.Instr{{Op: 3}}, deep), slices.Repeat([]api.Instr{{Op: 11}}, deep)
	if got := valid.Nest(slices.Concat(down, up, up, down)); got != deep {
		t.Error(got)
	}
	if got := valid.Nest(slices.Concat(up, down, []api.Instr{{Op: 2}})); got != 1 {
		t.Error(got)
	}
}

// nested is code of so many blocks in one another, each opened by an instruction of this code.
func nested(many, opener int) []api.Instr {
	var l []api.Instr
	for range many {
		if opener == 4 {
			l = append(l, api.Instr{Op: 0x41})
		}
		l = append(l, api.Instr{Op: opener, A: 64})
	}
	return append(l, slices.Repeat([]api.Instr{{Op: 0x0b}}, many+1)...)
}

// TestLong: P7.1 and P7.3: as many blocks in one another as there may be, and one more.
func TestLong(t *testing.T) {
	for _, opener := range []int{2, 3, 4} {
		for many, want := range map[int]api.Errno{255: api.OK, 256: api.OK, 257: api.ErrLong, 258: api.ErrLong, 5000: api.ErrLong} {
			f := api.Func{Code: nested(many, opener)}
			if e := valid.Func(world(), f); e != want {
				t.Errorf("Func, %d of %d: %d", many, opener, e)
			}
			for place := range 3 {
				m := world()
				m.Funcs = slices.Insert(m.Funcs, place*3, f)
				if e := valid.Module(m); e != want {
					t.Errorf("Module, %d of %d, as function %d: %d", many, opener, place*3, e)
				}
			}
		}
	}
	side := slices.Concat(nested(256, 2)[:512], nested(256, 3)[:512], nested(256, 2))
	if e := valid.Func(world(), api.Func{Code: side}); e != api.OK {
		t.Error("side by side", e)
	}
}

// TestFirstError: P7.1 and P7.3: ErrArg goes ahead of ErrLong, and that ahead of ErrType, wherever they stand.
func TestFirstError(t *testing.T) {
	bad := api.Instr{Op: 0x1a}                                           // of a stack of nothing
	deep := api.Func{Code: append([]api.Instr{bad}, nested(257, 2)...)}  // and not valid
	wrong := api.Func{Code: append([]api.Instr{{Op: 6}}, deep.Code...)}  // and no code
	noType := api.Func{Type: 1000, Code: nested(257, 2)}                 // and no type
	unright := api.Func{Type: 1000, Code: append(deep.Code, bad)}        // and not structured
	typed := api.Func{Code: append([]api.Instr{bad}, nested(256, 2)...)} // nothing but not valid
	for k, c := range []struct {
		f    api.Func
		want api.Errno
	}{{typed, api.ErrType}, {deep, api.ErrLong}, {noType, api.ErrLong}, {wrong, api.ErrArg}, {unright, api.ErrArg}} {
		if e := valid.Func(world(), c.f); e != c.want {
			t.Errorf("Func %d: %d, not %d", k, e, c.want)
		}
		for place := range 2 {
			m := world()
			m.Funcs = append(m.Funcs, typed)
			m.Funcs = slices.Insert(m.Funcs, place*(len(m.Funcs)), c.f)
			m.Memory = make([]api.Memory, 2)
			m.Start = 99
			if e := valid.Module(m); e != c.want {
				t.Errorf("Module %d: %d, not %d", k, e, c.want)
			}
		}
	}
	m := world()
	m.Funcs = []api.Func{typed, deep, wrong}
	for k, want := range []api.Errno{api.ErrType, api.ErrLong, api.ErrArg} {
		some := m
		some.Funcs = m.Funcs[:k+1]
		if e := valid.Module(some); e != want {
			t.Errorf("Module with %d: %d", k+1, e)
		}
	}
}

// TestFuncArg: P7.1: what is not Right in the function, or in the module but for its functions.
func TestFuncArg(t *testing.T) {
	fine := api.Func{Code: []api.Instr{{Op: 0x0b}}}
	for name, f := range map[string]api.Func{
		"nothing":            {},
		"no end":             {Code: []api.Instr{{Op: 1}}},
		"two ends":           {Code: []api.Instr{{Op: 0x0b}, {Op: 0x0b}}},
		"else":               {Code: []api.Instr{{Op: 5}, {Op: 0x0b}}},
		"type":               {Type: -1, Code: fine.Code},
		"great type":         {Type: 1 << 32, Code: fine.Code},
		"least type":         {Type: math.MinInt, Code: fine.Code},
		"locals":             {Locals: "\x7d", Code: fine.Code},
		"many locals":        {Locals: strings.Repeat("\x7f", 4097), Code: fine.Code},
		"no such code":       {Code: []api.Instr{{Op: 0x11}, {Op: 0x0b}}},
		"code of floats":     {Code: []api.Instr{{Op: 0x92}, {Op: 0x0b}}},
		"code below 0":       {Code: []api.Instr{{Op: -1}, {Op: 0x0b}}},
		"block of 0":         {Code: []api.Instr{{Op: 2}, {Op: 0x0b}, {Op: 0x0b}}},
		"label below 0":      {Code: []api.Instr{{Op: 0x0c, A: -1}, {Op: 0x0b}}},
		"labels of br":       {Code: []api.Instr{{Op: 0x0c, Labels: []int{0}}, {Op: 0x0b}}},
		"great label":        {Code: []api.Instr{{Op: 0x0c, A: 1 << 32}, {Op: 0x0b}}},
		"label of br_table":  {Code: []api.Instr{{Op: 0x41}, {Op: 0x0e, Labels: []int{-1}}, {Op: 0x0b}}},
		"labels of br_table": {Code: []api.Instr{{Op: 0x41}, {Op: 0x0e, Labels: make([]int, 4097)}, {Op: 0x0b}}},
		"const":              {Code: []api.Instr{{Op: 0x41, A: 1 << 31}, {Op: 0x1a}, {Op: 0x0b}}},
		"end with A":         {Code: []api.Instr{{Op: 0x0b, A: 1}}},
		"nop with B":         {Code: []api.Instr{{Op: 1, B: 1}, {Op: 0x0b}}},
	} {
		if e := valid.Func(world(), f); e != api.ErrArg {
			t.Errorf("Func, %s: %d", name, e)
		}
		m := world()
		m.Funcs = append(m.Funcs, f)
		if e := valid.Module(m); e != api.ErrArg {
			t.Errorf("Module, %s: %d", name, e)
		}
	}
	for name, change := range map[string]func(m *api.Module){
		"params":       func(m *api.Module) { m.Types[5].Params = "\x7c" },
		"results":      func(m *api.Module) { m.Types[5].Results = "\x7f\x7f" },
		"many params":  func(m *api.Module) { m.Types[5].Params = strings.Repeat("\x7f", 4097) },
		"many types":   func(m *api.Module) { m.Types = make([]api.FuncType, 4097) },
		"many globals": func(m *api.Module) { m.Globals = slices.Repeat([]api.Global{{Type: 127}}, 4097) },
		"many exports": func(m *api.Module) { m.Exports = make([]api.Export, 4097) },
		"many data":    func(m *api.Module) { m.Data = make([]api.Data, 4097) },
		"many memory":  func(m *api.Module) { m.Memory = make([]api.Memory, 4097) },
		"min":          func(m *api.Module) { m.Memory[0].Min = -1 },
		"max":          func(m *api.Module) { m.Memory[0].Max = -2 },
		"great max":    func(m *api.Module) { m.Memory[0].Max = 1 << 32 },
		"global":       func(m *api.Module) { m.Globals[0].Type = 64 },
		"init":         func(m *api.Module) { m.Globals[0].Init = 1 << 31 },
		"name":         func(m *api.Module) { m.Exports = []api.Export{{Name: "\xff"}} },
		"kind":         func(m *api.Module) { m.Exports = []api.Export{{Kind: 1}} },
		"index":        func(m *api.Module) { m.Exports = []api.Export{{Index: -1}} },
		"start":        func(m *api.Module) { m.Start = -2 },
		"great start":  func(m *api.Module) { m.Start = 1 << 32 },
		"offset":       func(m *api.Module) { m.Data = []api.Data{{Offset: 1 << 31}} },
	} {
		m := world()
		change(&m)
		if e := valid.Func(m, fine); e != api.ErrArg {
			t.Errorf("Func, module's %s: %d", name, e)
		}
		if e := valid.Module(m); e != api.ErrArg {
			t.Errorf("Module, %s: %d", name, e)
		}
	}
	if e := valid.Func(api.Module{Types: make([]api.FuncType, 1)}, fine); e != api.OK { // Start 0 is one that may be written
		t.Error(e)
	}
	m := world()
	m.Funcs = slices.Repeat([]api.Func{fine}, 4097)
	if e := valid.Module(m); e != api.ErrArg {
		t.Error("many functions", e)
	}
}

// TestFuncAlone: P7.1: of the module's own functions just the types of those that are called are asked for; and what Module alone asks is not.
func TestFuncAlone(t *testing.T) {
	m := world()
	m.Funcs = slices.Repeat([]api.Func{{Locals: "?", Code: []api.Instr{{Op: -5}}}}, 5000)
	m.Funcs[0].Type = -1
	m.Funcs[1].Type = len(m.Types)
	m.Funcs[2].Type = len(m.Types) - 1
	m.Funcs[3].Type = math.MinInt
	m.Funcs[4].Type = math.MaxInt
	m.Funcs[5].Type = ni
	m.Funcs[6].Type = 1 << 32
	m.Memory = []api.Memory{{Min: 1 << 31, Max: 0}, {}}
	m.Exports = []api.Export{{Index: 9999}, {Index: 9999}}
	m.Start = 7777
	for n, want := range map[string]api.Errno{"0": api.ErrType, "1": api.ErrType, "2": api.ErrType, "3": api.ErrType, "4": api.ErrType, "5; drop": api.OK, "6": api.ErrType, "7": api.OK, "4999": api.OK, "5000": api.ErrType, "0xffffffff": api.ErrType} {
		if e := valid.Func(m, api.Func{Code: code(t, "call "+n)}); e != want {
			t.Errorf("call %s: %d, not %d", n, e, want)
		}
	}
	if e := valid.Func(m, api.Func{Code: code(t, "i64.const 0; i32.const 0; call 2; memory.size; drop")}); e != api.OK {
		t.Error(e)
	}
	m.Memory, m.Data = nil, make([]api.Data, 3)
	if e := valid.Func(m, api.Func{Code: code(t, "nop")}); e != api.OK {
		t.Error("data without memory", e)
	}
	if e := valid.Func(world(), api.Func{Code: code(t, "call 6")}); e != api.ErrType { // f is none of m's functions
		t.Error("call of itself", e)
	}
}

// TestType: P7.2: a function's type is one of the module's.
func TestType(t *testing.T) {
	for kind, want := range map[int]api.Errno{0: api.OK, 5: api.OK, 6: api.ErrType, 7: api.ErrType, 1<<32 - 1: api.ErrType} {
		m, f := world(), api.Func{Type: kind, Code: code(t, "")}
		if e := valid.Func(m, f); e != want {
			t.Errorf("Func of type %d: %d", kind, e)
		}
		m.Funcs = append(m.Funcs, f)
		if e := valid.Module(m); e != want {
			t.Errorf("Module with a function of type %d: %d", kind, e)
		}
	}
	if e := valid.Func(api.Module{}, api.Func{Code: code(t, "")}); e != api.ErrType {
		t.Error("no types", e)
	}
}

// TestResults: P7.2 and P7.4: what a function is to leave.
func TestResults(t *testing.T) {
	runAll(t, []fit{
		{nn, "", "", true},
		{nn, "", "nop; nop", true},
		{nn, "", "i32.const 1", false},
		{nn, "", "i32.const 1; drop", true},
		{nn, "", "drop", false},
		{ni, "", "", false},
		{ni, "", "i32.const -7", true},
		{ni, "", "i64.const -7", false},
		{ni, "", "i32.const 1; i32.const 2", false},
		{ni, "", "i64.const 1; i32.const 2", false},
		{nl, "", "i64.const 1", true},
		{nl, "", "i32.const 1", false},
		{nl, "", "i64.const 1; nop", true},
		{ii, "", "", false}, // what it takes does not stand on the stack
		{ii, "", "local.get 0", true},
		{liN, "", "", true},
	})
}

// TestDead: P7.2: taking, and killing.
func TestDead(t *testing.T) {
	runAll(t, []fit{
		{nn, "", "unreachable", true},
		{ni, "", "unreachable", true},
		{nl, "", "unreachable", true},
		{ni, "", "unreachable; i32.const 1", true},
		{ni, "", "unreachable; i64.const 1", false},
		{nn, "", "unreachable; i32.const 1", false},
		{ni, "", "unreachable; i32.const 1; i32.const 1", false},
		{nn, "", "i32.const 1; i64.const 1; unreachable", true},
		{nn, "", "unreachable; drop; drop; drop", true},
		{nn, "", "unreachable; i32.const 0; drop; drop", true},
		{ni, "", "unreachable; i32.add", true},
		{ni, "", "unreachable; i32.const 1; i32.add", true},
		{ni, "", "unreachable; i64.const 1; i32.add", false},
		{ni, "", "unreachable; i64.const 1; i32.const 1; i32.add", false},
		{ni, "", "unreachable; i64.add", false},
		{nl, "", "unreachable; i64.const 1; i32.eqz", false},
		{nl, "", "unreachable; i64.add", true},
		{nn, "", "unreachable; call 5", true},
		{nn, "", "unreachable; i32.const 1; call 5", true},
		{nn, "", "unreachable; i64.const 1; call 5", false},
		{nn, "", "unreachable; i32.const 1; i32.const 1; call 5", false},
		{nn, "", "unreachable; i64.const 1; i32.const 1; i64.const 1; drop; call 5", true},
		{nn, "", "unreachable; unreachable", true},
		{nn, "", "block; unreachable; end", true},
		{nn, "", "block; unreachable; end; drop", false}, // behind the block the way is not dead
		{nn, "", "block i32; unreachable; end; drop", true},
		{nn, "", "block i32; unreachable; end; drop; drop", false},
		{ni, "", "i32.const 1; block; unreachable; drop; end", true}, // what stands below is not taken, nor cut away
		{nn, "", "i32.const 1; block; unreachable; drop; end", false},
		{ni, "", "i64.const 1; block i32; unreachable; end; i32.add", false},
		{nn, "", "unreachable; block; drop; end", false}, // a block in what is dead is not
		{nn, "", "unreachable; block i32; end; drop", false},
		{nn, "", "unreachable; loop; drop; end", false},
		{nn, "", "unreachable; if; drop; end", false},
		{nn, "", "unreachable; block; end; drop", true},
		{nn, "", "unreachable; nop; i64.const 1; drop", true},
		{nn, "", "unreachable; local.get 0", false}, // there is no such local, dead or not
		{nn, "", "unreachable; br 1", false},
		{nn, "", "unreachable; call 9", false},
		{nn, "", "unreachable; global.set 1", false},
		{nn, "", "unreachable; i32.load 3; drop", false},
	})
}

// TestBlocks: P7.2: block, loop, if, else, end.
func TestBlocks(t *testing.T) {
	runAll(t, []fit{
		{nn, "", "block; end", true},
		{nn, "", "loop; end", true},
		{nn, "", "block; i32.const 1; end", false},
		{nn, "", "loop; i32.const 1; end", false},
		{ni, "", "block i32; i32.const 1; end", true},
		{ni, "", "loop i32; i32.const 1; end", true},
		{nl, "", "block i64; i64.const 1; end", true},
		{ni, "", "block i64; i64.const 1; end", false},
		{nl, "", "block i64; i32.const 1; end", false},
		{ni, "", "block i32; end", false},
		{ni, "", "block i32; i32.const 1; i32.const 1; end", false},
		{nn, "", "block i32; i32.const 1; end", false},
		{ni, "", "i32.const 1; block i32; end", false}, // what stands below the height can't be taken
		{nn, "", "i32.const 1; block; drop; end", false},
		{nn, "", "i32.const 1; loop; drop; end", false},
		{ni, "", "i32.const 1; block; end", true},
		{ni, "", "i32.const 1; block i32; i32.const 2; end; i32.add", true},
		{nl, "", "i32.const 1; block i32; i32.const 2; end; i64.add", false},
		{nn, "", "if; end", false},
		{nn, "", "i32.const 1; if; end", true},
		{nn, "", "i64.const 1; if; end", false},
		{nn, "", "unreachable; if; end", true},
		{nn, "", "unreachable; i64.const 1; if; end", false},
		{nn, "", "i32.const 1; if; else; end", true},
		{nn, "", "i32.const 1; if; unreachable; end", true},
		{ni, "", "i32.const 1; if i32; i32.const 1; end", false}, // no else, but a result
		{ni, "", "i32.const 1; if i32; unreachable; end", false},
		{ni, "", "unreachable; if i32; unreachable; end", false},
		{ni, "", "i32.const 1; if i32; i32.const 1; else; i32.const 2; end", true},
		{nl, "", "i32.const 1; if i64; i64.const 1; else; i64.const 2; end", true},
		{ni, "", "i32.const 1; if i32; i64.const 1; else; i32.const 2; end", false},
		{ni, "", "i32.const 1; if i32; i32.const 1; else; i64.const 2; end", false},
		{ni, "", "i32.const 1; if i32; else; i32.const 2; end", false},
		{ni, "", "i32.const 1; if i32; i32.const 1; else; end", false},
		{ni, "", "i32.const 1; if i32; i32.const 1; i32.const 1; else; i32.const 2; end", false},
		{ni, "", "i32.const 1; if i32; i32.const 1; else; i32.const 1; i32.const 2; end", false},
		{ni, "", "i32.const 1; if i32; unreachable; else; i32.const 2; end", true},
		{ni, "", "i32.const 1; if i32; unreachable; else; end", false}, // an else is not dead
		{nn, "", "i32.const 1; if; unreachable; else; drop; end", false},
		{ni, "", "i32.const 1; if i32; i32.const 1; else; unreachable; end", true},
		{nn, "", "i32.const 1; if; i32.const 1; else; end", false},
		{nn, "", "i32.const 1; if; else; i32.const 1; end", false},
		{ni, "", "i32.const 7; i32.const 1; if; else; end", true},
		{nn, "", "i32.const 7; i32.const 1; if; else; drop; end", false}, // the else has the height of its if
		{ni, "", "i32.const 7; i32.const 1; if i32; i32.const 1; else; i32.const 2; end; i32.sub", true},
		{nn, "", "unreachable; if i32; i32.const 1; else; i32.const 1; end; drop; drop", true},
		{nn, "", "i32.const 1; if; end; drop", false},
		{nn, "", "block; unreachable; block; end; drop; end", true}, // the outer one is dead yet
		{nn, "", "block; block; unreachable; end; drop; end", false},
	})
}

// TestBranches: P7.2: br, br_if, br_table, return, and labels.
func TestBranches(t *testing.T) {
	runAll(t, []fit{
		{nn, "", "br 0", true},
		{nn, "", "br 1", false},
		{nn, "", "br 0xffffffff", false},
		{nn, "", "i32.const 1; br_if 0xffffffff", false},
		{nn, "", "block; br 0; end", true},
		{nn, "", "block; br 1; end", true},
		{nn, "", "block; br 2; end", false},
		{nn, "", "block; end; br 1", false},
		{nn, "", "loop; br 0; end", true},
		{nn, "", "i32.const 1; if; br 0; else; br 1; end", true},
		{nn, "", "i32.const 1; if; else; br 2; end", false},
		{nn, "", "br 0; drop; drop", true},
		{nn, "", "i32.const 1; br 0", true}, // what is too much goes
		{nn, "", "block; i32.const 1; i64.const 1; br 0; end", true},
		{ni, "", "br 0", false},
		{ni, "", "i32.const 1; br 0", true},
		{ni, "", "i64.const 1; br 0", false},
		{ni, "", "i32.const 1; br 0; i64.const 1", false},
		{ni, "", "i64.const 1; i32.const 1; br 0", true},
		{ni, "", "i32.const 1; i64.const 1; br 0", false},
		{ni, "", "block; i32.const 1; br 1; end; i32.const 2", true},
		{ni, "", "block; br 1; end; i32.const 2", false},
		{ni, "", "i32.const 1; block; br 1; end", false}, // it stands below the block's height
		{ni, "", "block i32; i32.const 1; br 0; end", true},
		{ni, "", "block i32; br 0; end", false},
		{nl, "", "block i64; i32.const 1; br 0; end", false},
		{ni, "", "loop i32; br 0; end", true}, // the label of a loop takes nothing
		{ni, "", "loop i32; i32.const 1; br 0; end", true},
		{ni, "", "loop i32; i64.const 1; br 0; end", true},
		{ni, "", "loop i32; i64.const 1; br 1; end", false},
		{ni, "", "block i32; loop; i32.const 1; br 1; end; unreachable; end", true},
		{ni, "", "block i32; loop; br 1; end; i32.const 1; end", false},
		{ni, "", "i32.const 1; if i32; i32.const 1; br 0; else; i32.const 2; br 0; end", true},
		{ni, "", "i32.const 1; if i32; br 0; else; i32.const 2; end", false},
		{ni, "", "i32.const 1; if i32; i32.const 2; else; br 0; end", false},
		{ni, "", "i32.const 1; if i32; i32.const 1; br 1; else; i32.const 2; br 1; end", true},
		{nn, "", "br_if 0", false},
		{nn, "", "i32.const 1; br_if 0", true},
		{nn, "", "i64.const 1; br_if 0", false},
		{nn, "", "i32.const 1; br_if 1", false},
		{nn, "", "i32.const 1; br_if 0; drop", false}, // br_if kills nothing
		{nn, "", "i64.const 1; i32.const 1; br_if 0", false},
		{nn, "", "i64.const 1; i32.const 1; br_if 0; drop", true},
		{ni, "", "i32.const 1; i32.const 1; br_if 0", true},
		{ni, "", "i32.const 1; br_if 0", false},
		{ni, "", "i64.const 1; i32.const 1; br_if 0", false},
		{ni, "", "i32.const 1; i32.const 1; br_if 0; drop", false},
		{ni, "", "i32.const 1; i64.const 1; br_if 0", false},
		{nl, "", "i64.const 1; i32.const 1; br_if 0", true}, // the i32 is taken ahead of the label's
		{nl, "", "i32.const 1; i64.const 1; br_if 0", false},
		{ni, "", "loop i32; i32.const 1; br_if 0; i32.const 1; end", true},
		{ni, "", "unreachable; br_if 0", true},
		{nn, "", "block i32; unreachable; br_if 0; i32.eqz; end; drop", true},
		{nn, "", "block i32; unreachable; br_if 0; i64.eqz; end; drop", false}, // what br_if puts is known
		{nn, "", "unreachable; br_if 0; i64.eqz; drop", true},
		{nn, "", "br_table 0", false},
		{nn, "", "i32.const 1; br_table 0", true},
		{nn, "", "i64.const 1; br_table 0", false},
		{nn, "", "i32.const 1; br_table 1", false},
		{nn, "", "i32.const 1; br_table 0 0 0", true},
		{nn, "", "i32.const 1; br_table 1 0", false},
		{nn, "", "i32.const 1; br_table 0 1", false},
		{nn, "", "i32.const 1; br_table 0 0xffffffff 0", false},
		{nn, "", "i32.const 1; br_table 0; drop; i32.add; drop", true},
		{nn, "", "block; loop; i32.const 1; br_table 0 1 2 1; end; end", true},
		{nn, "", "block; loop; i32.const 1; br_table 0 1 3 1; end; end", false},
		{nn, "", "block; loop; i32.const 1; br_table 0 1 2 3; end; end", false},
		{ni, "", "i32.const 7; i32.const 1; br_table 0 0", true},
		{ni, "", "i32.const 1; br_table 0 0", false},
		{ni, "", "i64.const 7; i32.const 1; br_table 0 0", false},
		{ni, "", "block i32; i32.const 7; i32.const 1; br_table 0 1 0; end", true},
		{ni, "", "block i64; i32.const 7; i32.const 1; br_table 0 1; end; i32.wrap_i64", false},
		{ni, "", "block i64; i64.const 7; i32.const 1; br_table 0; end; i32.wrap_i64", true},
		{ni, "", "block; i32.const 7; i32.const 1; br_table 1 0; end; i32.const 1", false},
		{ni, "", "block; i32.const 7; i32.const 1; br_table 0 1; end; i32.const 1", false},
		{ni, "", "loop i32; i32.const 7; i32.const 1; br_table 0 1; end", false}, // the loop's takes nothing
		{ni, "", "loop i32; i32.const 7; i32.const 1; br_table 1 1; end", true},
		{ni, "", "block i64; unreachable; br_table 0 1; end; i32.wrap_i64", false}, // not of one type, dead or not
		{ni, "", "block i32; unreachable; br_table 0 1; end", true},
		{nn, "", "return", true},
		{nn, "", "i32.const 1; return", true},
		{nn, "", "return; drop", true},
		{ni, "", "return", false},
		{ni, "", "i32.const 1; return", true},
		{ni, "", "i64.const 1; return", false},
		{ni, "", "i32.const 1; return; i64.const 1", false},
		{ni, "", "i64.const 1; i32.const 1; return", true},
		{ni, "", "block; i32.const 1; return; end; i32.const 1", true},
		{ni, "", "i32.const 1; block; return; end", false},
		{ni, "", "block i64; i32.const 1; return; end; i32.wrap_i64", true},
		{ni, "", "block i64; i64.const 1; return; end; i32.wrap_i64", false},
		{ni, "", "loop; i32.const 1; return; end; unreachable", true},
	})
}

// TestPlain: P7.2: call, drop, select, locals and globals.
func TestPlain(t *testing.T) {
	runAll(t, []fit{
		{nn, "", "call 0", true},
		{ni, "", "call 1", true},
		{nl, "", "call 2", true},
		{nn, "", "call 1", false},
		{ni, "", "call 0", false},
		{nl, "", "call 1", false},
		{ni, "", "i32.const 1; call 3", true},
		{ni, "", "i64.const 1; call 3", false},
		{ni, "", "call 3", false},
		{nl, "", "i32.const 1; i64.const 1; call 4", true},
		{nl, "", "i64.const 1; i32.const 1; call 4", false}, // the last one first
		{nl, "", "i64.const 1; call 4", false},
		{nn, "", "i64.const 1; i32.const 1; call 5", true},
		{nn, "", "i32.const 1; i64.const 1; call 5", false},
		{nn, "", "i32.const 1; call 5", false},
		{nn, "", "i32.const 1; i64.const 1; i32.const 1; call 5", false},
		{nn, "", "call 9", false},
		{nn, "", "call 0xffffffff", false},
		{nn, "", "i64.const 1; drop", true},
		{nn, "", "i32.const 1; drop; drop", false},
		{ni, "", "i32.const 1; i64.const 1; drop", true},
		{ni, "", "i32.const 1; i32.const 2; i32.const 3; select", true},
		{nl, "", "i64.const 1; i64.const 2; i32.const 3; select", true},
		{nl, "", "i32.const 1; i32.const 2; i32.const 3; select", false},
		{ni, "", "i64.const 1; i64.const 2; i32.const 3; select", false},
		{ni, "", "i32.const 1; i64.const 2; i32.const 3; select", false},
		{ni, "", "i64.const 1; i32.const 2; i32.const 3; select", false},
		{ni, "", "i32.const 1; i32.const 2; i64.const 3; select", false},
		{ni, "", "i32.const 2; i32.const 3; select", false},
		{ni, "", "i32.const 3; select", false},
		{nn, "", "select; drop", false},
		{ni, "", "unreachable; select", true}, // unknown
		{nl, "", "unreachable; select", true},
		{nn, "", "unreachable; select", false}, // but it is there
		{nn, "", "unreachable; select; drop", true},
		{nn, "", "unreachable; select; i32.eqz; drop", true},
		{nn, "", "unreachable; select; i64.eqz; drop", true},
		{nn, "", "unreachable; select; select; select; drop", true},
		{nn, "", "unreachable; i64.const 1; select; drop", false},
		{nn, "", "unreachable; i32.const 1; select; drop", true},
		{nn, "", "unreachable; i64.const 1; i32.const 1; select; i64.eqz; drop", true}, // the known one
		{nn, "", "unreachable; i64.const 1; i32.const 1; select; i32.eqz; drop", false},
		{nn, "", "unreachable; i32.const 1; i32.const 1; select; i32.eqz; drop", true},
		{nn, "", "unreachable; i32.const 1; i32.const 1; select; i64.eqz; drop", false},
		{nn, "", "unreachable; select; i64.const 1; i32.const 1; select; i64.eqz; drop", true},
		{nn, "", "unreachable; select; i64.const 1; i32.const 1; select; i32.eqz; drop", false},
		{nn, "", "unreachable; i64.const 1; br_if 0; drop", false},
		{nn, "", "unreachable; i64.const 1; unreachable; select; i32.const 1; select; i32.eqz; drop", true},
		{nn, "", "block; unreachable; i64.const 1; select; drop; end", false},
		{ni, "", "unreachable; i64.const 1; i32.const 1; i32.const 1; select", false},
		{ni, "", "unreachable; select; select; i32.const 1; i32.add", true},
		{nl, "", "unreachable; select; i64.const 1; i64.add", true},

		{nn, "", "local.get 0; drop", false},
		{nn, "\x7f", "local.get 0; drop", true},
		{nn, "\x7f", "local.get 1; drop", false},
		{ni, "\x7f", "local.get 0", true},
		{ni, "\x7e", "local.get 0", false},
		{nl, "\x7f\x7e", "local.get 1", true},
		{nl, "\x7f\x7e", "local.get 0", false},
		{ilL, "", "local.get 1", true},
		{ilL, "", "local.get 0", false},
		{ilL, "", "local.get 2", false},
		{ilL, "\x7e\x7f", "local.get 2", true}, // the params stand first
		{ilL, "\x7e\x7f", "local.get 3", false},
		{ilL, "\x7e\x7f", "local.get 3; i64.extend_i32_u", true},
		{ilL, "\x7e\x7f", "local.get 4", false},
		{nn, "\x7f", "local.get 0xffffffff; drop", false},
		{nn, "\x7f\x7e", "i64.const 1; local.set 1", true},
		{nn, "\x7f\x7e", "i32.const 1; local.set 1", false},
		{nn, "\x7f\x7e", "i32.const 1; local.set 0", true},
		{nn, "\x7f\x7e", "i32.const 1; local.set 2", false},
		{nn, "\x7f\x7e", "local.set 0", false},
		{liN, "", "i64.const 1; local.set 0", true},
		{liN, "", "i64.const 1; local.set 1", false},
		{liN, "", "i64.const 1; local.set 0xffffffff", false},
		{nl, "\x7f\x7e", "i64.const 1; local.tee 1", true},
		{nl, "\x7f\x7e", "i64.const 1; local.tee 0", false},
		{nl, "\x7f\x7e", "i64.const 1; local.tee 2", false},
		{nl, "\x7f\x7e", "local.tee 1", false},
		{ni, "\x7f\x7e", "i32.const 1; local.tee 0; local.tee 0", true},
		{nn, "\x7f\x7e", "i32.const 1; local.tee 0", false},
		{ni, "\x7f\x7e", "i64.const 1; local.tee 1", false},
		{nl, "\x7f\x7e", "unreachable; local.tee 0", false}, // what it puts is known
		{ni, "\x7f\x7e", "unreachable; local.tee 0", true},

		{ni, "", "global.get 0", true},
		{nl, "", "global.get 0", false},
		{nl, "", "global.get 1", true},
		{nl, "", "global.get 2", true},
		{ni, "", "global.get 3", true},
		{ni, "", "global.get 4", false},
		{ni, "", "global.get 0xffffffff", false},
		{nn, "", "i32.const 1; global.set 0", true},
		{nn, "", "i64.const 1; global.set 0", false},
		{nn, "", "i64.const 1; global.set 1", false}, // it may not be set
		{nn, "", "i64.const 1; global.set 2", true},
		{nn, "", "i32.const 1; global.set 2", false},
		{nn, "", "i32.const 1; global.set 3", false},
		{nn, "", "i32.const 1; global.set 4", false},
		{nn, "", "i32.const 1; global.set 0xffffffff", false},
		{nn, "", "global.set 0", false},
	})
}

// consts is code that puts values of these types; but its end is left off.
func consts(kinds string) []api.Instr {
	l := make([]api.Instr, len(kinds))
	for k := range kinds {
		l[k].Op = 0x41 + 0x7f - int(kinds[k])
	}
	return l
}

// reckoned are all instructions of which chapter 3 tells what they take and put.
func reckoned() []int {
	var l []int
	for c := range 256 {
		if info, ok := op.Of(c); ok && (c == 1 || info.Params+info.Results != "") {
			l = append(l, c)
		}
	}
	return l
}

// asType answers the module's number of a type that takes nothing and answers this, the module being given one.
func asType(m *api.Module, results string) int {
	m.Types = append(m.Types, api.FuncType{Results: results})
	return len(m.Types) - 1
}

// TestReckoned: P7.2: they take their Params, the last one first, and put their Results, no more and no less.
func TestReckoned(t *testing.T) {
	all := reckoned()
	if len(all) != 1+2+2+19+61 { // nop, memory.size and grow, consts, loads and stores, numbers
		t.Fatal(len(all))
	}
	stacks := []string{"", "\x7f", "\x7e", "\x7f\x7f", "\x7f\x7e", "\x7e\x7f", "\x7e\x7e", "\x7f\x7f\x7f", "\x7e\x7f\x7f", "\x7e\x7f\x7e", "\x7f\x7e\x7e"}
	for _, c := range all {
		info, _ := op.Of(c)
		for _, had := range stacks {
			for _, left := range []string{"", "\x7f", "\x7e"} {
				m := world()
				f := api.Func{Type: asType(&m, left), Code: append(consts(had), api.Instr{Op: c}, api.Instr{Op: 0x0b})}
				below, ok := strings.CutSuffix(had, info.Params)
				want := api.ErrType
				if ok && below+info.Results == left {
					want = api.OK
				}
				if e := valid.Func(m, f); e != want {
					t.Errorf("%s of %x, %x left: %d, not %d", info.Name, had, left, e, want)
				}
			}
		}
	}
}

// TestMemory: P7.2: what needs a memory, and how great A may be.
func TestMemory(t *testing.T) {
	const powers = "i32.load 2 i64.load 3 i32.load8_s 0 i32.load8_u 0 i32.load16_s 1 i32.load16_u 1 i64.load8_s 0 i64.load8_u 0 i64.load16_s 1 i64.load16_u 1 i64.load32_s 2 i64.load32_u 2 i32.store 2 i64.store 3 i32.store8 0 i32.store16 1 i64.store8 0 i64.store16 1 i64.store32 2 memory.size 0 memory.grow 0"
	words := strings.Fields(powers)
	seen := map[int]bool{}
	for k := 0; k < len(words); k += 2 {
		c, _ := op.Code(words[k])
		info, _ := op.Of(c)
		power, _ := strconv.Atoi(words[k+1])
		seen[c] = true
		for _, a := range []int64{0, 1, 2, 3, 4, 5, 31, 32, 33, 64, 255, 256, 1 << 16, 1<<31 - 1, 1 << 31, 1<<32 - 1} {
			for _, b := range []int64{0, 1, 7, 65536, 1<<32 - 1} {
				if info.Shape == op.Zero && a+b > 0 {
					continue // not right
				}
				for many := range 3 {
					m := world()
					m.Memory = slices.Repeat(m.Memory, many)
					f := api.Func{Type: asType(&m, info.Results), Code: append(consts(info.Params), api.Instr{Op: c, A: a, B: b}, api.Instr{Op: 0x0b})}
					want := api.ErrType
					if many > 0 && a <= int64(power) {
						want = api.OK
					}
					if e := valid.Func(m, f); e != want {
						t.Errorf("%s, A %d, B %d, %d memories: %d, not %d", info.Name, a, b, many, e, want)
					}
				}
			}
		}
	}
	for c := range 256 {
		if info, _ := op.Of(c); (info.Shape == op.Memory || info.Shape == op.Zero) != seen[c] {
			t.Errorf("%x", c)
		}
	}
}

// TestModuleKnown: P7.3: what a module is asked beside its functions.
func TestModuleKnown(t *testing.T) {
	data := []api.Data{{Offset: 3, Bytes: "x"}}
	export := func(name string, kind, index int) []api.Export {
		return []api.Export{{Name: name, Kind: kind, Index: index}}
	}
	memory := func(l ...api.Memory) func(m *api.Module) { return func(m *api.Module) { m.Memory = l } }
	exports := func(l ...[]api.Export) func(m *api.Module) {
		return func(m *api.Module) { m.Exports = slices.Concat(l...) }
	}
	start := func(n int) func(m *api.Module) { return func(m *api.Module) { m.Start = n } }
	for name, c := range map[string]struct {
		change func(m *api.Module)
		want   api.Errno
	}{
		"no memory":          {memory(), api.OK},
		"two memories":       {memory(api.Memory{Max: -1}, api.Memory{Max: -1}), api.ErrType},
		"many memories":      {memory(make([]api.Memory, 4096)...), api.ErrType},
		"memory of nothing":  {memory(api.Memory{}), api.OK},
		"memory's most":      {memory(api.Memory{Min: 65536, Max: 65536}), api.OK},
		"memory's most, -1":  {memory(api.Memory{Min: 65536, Max: -1}), api.OK},
		"Min too great":      {memory(api.Memory{Min: 65537, Max: -1}), api.ErrType},
		"Min too great, Max": {memory(api.Memory{Min: 65537, Max: 65537}), api.ErrType},
		"Min's greatest":     {memory(api.Memory{Min: 1<<32 - 1, Max: -1}), api.ErrType},
		"Max's most":         {memory(api.Memory{Min: 0, Max: 65536}), api.OK},
		"Max too great":      {memory(api.Memory{Min: 0, Max: 65537}), api.ErrType},
		"Max's greatest":     {memory(api.Memory{Min: 1, Max: 1<<32 - 1}), api.ErrType},
		"Max as Min":         {memory(api.Memory{Min: 300, Max: 300}), api.OK},
		"Max below Min":      {memory(api.Memory{Min: 300, Max: 299}), api.ErrType},
		"Max 0 below Min":    {memory(api.Memory{Min: 1, Max: 0}), api.ErrType},
		"Max not below Min":  {memory(api.Memory{Min: 300, Max: 301}), api.OK},

		"no name":                  {exports(export("", 0, 0)), api.OK},
		"a function":               {exports(export("f", 0, 5)), api.OK},
		"no such function":         {exports(export("f", 0, 6)), api.ErrType},
		"no such function, much":   {exports(export("f", 0, 1<<32-1)), api.ErrType},
		"the memory":               {exports(export("m", 2, 0)), api.OK},
		"no such memory":           {exports(export("m", 2, 1)), api.ErrType},
		"a global":                 {exports(export("g", 3, 3)), api.OK},
		"no such global":           {exports(export("g", 3, 4)), api.ErrType},
		"no memory for it":         {func(m *api.Module) { m.Memory, m.Exports = nil, export("m", 2, 0) }, api.ErrType},
		"no global for it":         {func(m *api.Module) { m.Globals, m.Exports = nil, export("g", 3, 0) }, api.ErrType},
		"no function for it":       {func(m *api.Module) { m.Funcs, m.Exports = nil, export("f", 0, 0) }, api.ErrType},
		"the last one is none":     {exports(export("a", 0, 0), export("b", 3, 0), export("c", 2, 1)), api.ErrType},
		"the first one is none":    {exports(export("a", 0, 6), export("b", 3, 0), export("c", 2, 0)), api.ErrType},
		"all kinds":                {exports(export("a", 0, 0), export("b", 3, 0), export("c", 2, 0)), api.OK},
		"one thing, two names":     {exports(export("a", 0, 0), export("b", 0, 0), export("c", 2, 0), export("d", 2, 0)), api.OK},
		"one name":                 {exports(export("a", 0, 0), export("a", 0, 0)), api.ErrType},
		"one name, two things":     {exports(export("a", 0, 0), export("a", 0, 1)), api.ErrType},
		"one name, two kinds":      {exports(export("a", 0, 0), export("b", 0, 0), export("a", 2, 0)), api.ErrType},
		"one name, that of none":   {exports(export("", 0, 0), export("b", 0, 0), export("", 3, 1)), api.ErrType},
		"names that are not one":   {exports(export("a", 0, 0), export("A", 0, 0), export("a ", 0, 0), export("a\x00", 0, 0), export("aa", 0, 0), export("\u00e9", 0, 0), export("e\u0301", 0, 0)), api.OK},
		"one name far apart":       {func(m *api.Module) { m.Exports = named(4096); m.Exports[4095].Name = m.Exports[0].Name }, api.ErrType},
		"as many names as may be":  {func(m *api.Module) { m.Exports = named(4096) }, api.OK},
		"too many names to be had": {func(m *api.Module) { m.Exports = named(4097) }, api.ErrArg},

		"no start":            {start(-1), api.OK},
		"start":               {start(0), api.OK},
		"start of another":    {func(m *api.Module) { m.Start, m.Funcs = 6, append(m.Funcs, m.Funcs[0]) }, api.OK},
		"start is none":       {start(6), api.ErrType},
		"start is none, much": {start(1<<32 - 1), api.ErrType},
		"start of nothing":    {func(m *api.Module) { *m = api.Module{} }, api.ErrType},
		"start answers":       {start(ni), api.ErrType},
		"start answers i64":   {start(nl), api.ErrType},
		"start takes, too":    {start(ii), api.ErrType},
		"start takes":         {start(liN), api.ErrType},

		"data":            {func(m *api.Module) { m.Data = data }, api.OK},
		"data, no memory": {func(m *api.Module) { m.Data, m.Memory = data, nil }, api.ErrType},
		"data of nothing": {func(m *api.Module) { m.Data, m.Memory = make([]api.Data, 1), nil }, api.ErrType},
		"data anywhere": {func(m *api.Module) {
			m.Data = []api.Data{{Offset: -1 << 31, Bytes: "x"}, {Offset: 1<<31 - 1, Bytes: "y"}}
		}, api.OK}, // whether there is room is asked where it is run

		"first function":  {func(m *api.Module) { m.Funcs[0].Code = code(t, "drop") }, api.ErrType},
		"last function":   {func(m *api.Module) { m.Funcs[5].Code = code(t, "i32.const 1") }, api.ErrType},
		"function's type": {func(m *api.Module) { m.Funcs[5].Type = 6 }, api.ErrType},
		"unused types":    {func(m *api.Module) { m.Types = append(m.Types, m.Types...) }, api.OK},
		"no types":        {func(m *api.Module) { m.Types = nil }, api.ErrType},
		"nothing":         {func(m *api.Module) { *m = api.Module{Start: -1} }, api.OK},
		"memory alone":    {func(m *api.Module) { *m = api.Module{Start: -1, Memory: m.Memory, Data: data} }, api.OK},
		"calls ahead":     {func(m *api.Module) { m.Funcs[0].Code = code(t, "call 5") }, api.ErrType},
		"calls each other": {func(m *api.Module) {
			m.Funcs[0].Code = code(t, "i64.const 1; i32.const 1; call 5; call 0")
			m.Funcs[5].Code = code(t, "call 0; local.get 0; local.get 1; call 5")
		}, api.OK},
	} {
		m := world()
		c.change(&m)
		if e := valid.Module(m); e != c.want {
			t.Errorf("%s: %d, not %d", name, e, c.want)
		}
	}
}

// named are so many exports, each of a name of its own.
func named(many int) []api.Export {
	l := make([]api.Export, many)
	for k := range l {
		l[k].Name = "f" + strconv.Itoa(k)
	}
	return l
}

// TestApart: P7.3: of many functions none counts by what another one left.
func TestApart(t *testing.T) {
	m := world()
	for k := range 2000 {
		m.Funcs = append(m.Funcs, api.Func{Type: []int{nn, ni, nl}[k%3], Locals: []string{"\x7f", "\x7e\x7f", ""}[k%3], Code: code(t, []string{"i32.const 1; i64.const 1; local.get 0; return", "block i32; i32.const 1; br 1; end; local.get 1; i32.add", "unreachable"}[k%3])})
	}
	if e := valid.Module(m); e != api.OK {
		t.Error(e)
	}
	for _, text := range []string{"drop", "local.get 0; drop", "br 1", "i32.eqz; drop"} {
		m.Funcs[1999] = api.Func{Code: code(t, text)}
		if e := valid.Module(m); e != api.ErrType {
			t.Error(text, e)
		}
	}
}

// TestMuch: P1: what is great is gone through all the same.
func TestMuch(t *testing.T) {
	m := world()
	m.Types = append(m.Types, api.FuncType{Params: strings.Repeat("\x7f\x7e", 2048)})
	m.Funcs = append(m.Funcs, api.Func{Type: 6, Locals: strings.Repeat("\x7e", 4096), Code: code(t, "local.get 8190; local.get 4095; i64.eq; drop; local.get 4094; drop")})
	const many = 200000
	calls := append([]api.Instr{{Op: 0}}, slices.Repeat([]api.Instr{{Op: 0x10, A: 6}}, many)...) // each takes 4096 that are unknown
	for name, l := range map[string][]api.Instr{
		"calls in what is dead": calls,
		"nops":                  slices.Repeat([]api.Instr{{Op: 1}}, many),
		"values":                append(slices.Repeat([]api.Instr{{Op: 0x41}}, many), slices.Repeat([]api.Instr{{Op: 0x1a}}, many)...),
		"values that go":        append(slices.Repeat([]api.Instr{{Op: 0x42}}, many), api.Instr{Op: 0x0f}),
		"a call":                append(consts(m.Types[6].Params), api.Instr{Op: 0x10, A: 6}),
		"labels":                slices.Repeat([]api.Instr{{Op: 0x41}, {Op: 0x0e, Labels: make([]int, 4096)}}, 50),
		"blocks":                slices.Repeat([]api.Instr{{Op: 2, A: 127}, {Op: 0}, {Op: 0x0b}, {Op: 0x1a}}, many/4),
	} {
		m.Funcs[0].Code = append(l, api.Instr{Op: 0x0b})
		if e := valid.Module(m); e != api.OK {
			t.Errorf("%s: %d", name, e)
		}
		m.Funcs[0].Code = append(slices.Clip(l), api.Instr{Op: 0x41}, api.Instr{Op: 0x0b})
		if e := valid.Module(m); e != api.ErrType {
			t.Errorf("%s, and one that is left: %d", name, e)
		}
	}
}

// spare is a module whose lists have room behind them, with something in it.
func spare(t *testing.T) api.Module {
	m := world()
	m.Funcs[0].Code = code(t, "block; i32.const 1; br_table 0 1; end; i32.const 8; i32.load 2 4; drop")
	m.Exports, m.Data, m.Start = named(3), []api.Data{{Bytes: "abc"}}, 0
	m.Types = append(m.Types, api.FuncType{Params: "?"})[:len(m.Types)]
	m.Funcs = append(m.Funcs, api.Func{Type: 77, Code: []api.Instr{{Op: 77}}})[:len(m.Funcs)]
	m.Memory = append(m.Memory, api.Memory{Min: 77})[:1]
	m.Globals = append(m.Globals, api.Global{Type: 77})[:len(m.Globals)]
	m.Exports = append(m.Exports, api.Export{Index: 77})[:3]
	m.Data = append(m.Data, api.Data{Offset: 77})[:1]
	for k, f := range m.Funcs {
		m.Funcs[k].Code = append(f.Code, api.Instr{Op: 77})[:len(f.Code)]
	}
	return m
}

// behind is all of a module, the room behind its lists too.
func behind(m api.Module) []any {
	l := []any{m.Start, m.Types[:cap(m.Types)], m.Funcs[:cap(m.Funcs)], m.Memory[:cap(m.Memory)], m.Globals[:cap(m.Globals)], m.Exports[:cap(m.Exports)], m.Data[:cap(m.Data)]}
	for _, f := range m.Funcs {
		l = append(l, f.Code[:cap(f.Code)])
	}
	return l
}

// TestUntouched: P3: nothing that is handed in is written into.
func TestUntouched(t *testing.T) {
	m, same := spare(t), spare(t)
	for _, f := range m.Funcs {
		if e := valid.Func(m, f); e != api.OK || valid.Nest(f.Code) > 1 {
			t.Error(e)
		}
	}
	if e := valid.Module(m); e != api.OK {
		t.Error(e)
	}
	if !reflect.DeepEqual(behind(m), behind(same)) || !module.Same(m, same) {
		t.Error("not as it was")
	}
}

// TestTogether: P4: many that use one module at one time.
func TestTogether(t *testing.T) {
	m := spare(t)
	bad := module.Copy(m)
	bad.Funcs[5].Code = code(t, "drop")
	var all sync.WaitGroup
	for range 8 {
		all.Go(func() {
			for range 100 {
				if valid.Module(m) != api.OK || valid.Func(m, m.Funcs[0]) != api.OK || valid.Module(bad) != api.ErrType {
					t.Error("not what it answers alone")
				}
			}
		})
	}
	all.Wait()
}
