package run_test

import (
	"math"
	"reflect"
	"slices"
	"strings"
	"sync"
	"testing"

	"tuckmill/api"
	"tuckmill/module"
	"tuckmill/run"
)

// TestExample: the chapter's.
func TestExample(t *testing.T) {
	calls(t, made(t, alone(t, ">", "", "")), 0, nil, 1, nil, 0, api.OK)
}

// deep is a module with a function that has so many blocks in one another.
func deep(t testing.TB, n int) api.Module {
	t.Helper()
	return alone(t, ">", "", strings.Repeat("block; ", n)+strings.Repeat("end; ", n))
}

// TestNewKnown: P9.1: what New refuses, and which of two errors is told.
func TestNewKnown(t *testing.T) {
	wrong, long, unfit := alone(t, ">", "", ""), deep(t, 257), alone(t, ">i", "", "")
	wrong.Start = -2
	room := func(m api.Module) api.Module {
		m.Memory = []api.Memory{{Min: 257, Max: -1}}
		return m
	}
	trap := func(m api.Module) api.Module {
		if m.Memory == nil {
			m.Memory = []api.Memory{{Min: 1, Max: -1}}
		}
		m.Data = []api.Data{{Offset: 1 << 30, Bytes: "a"}}
		return m
	}
	fine := alone(t, ">", "", "")
	both := long
	both.Funcs = append(slices.Clip(both.Funcs), unfit.Funcs...)
	for k, c := range []struct {
		m    api.Module
		want api.Errno
	}{
		{api.Module{Start: -1}, api.OK}, {fine, api.OK}, {deep(t, 256), api.OK},
		{api.Module{}, api.ErrType}, // there is no function to start with
		{wrong, api.ErrArg}, {room(wrong), api.ErrArg}, {trap(wrong), api.ErrArg},
		{long, api.ErrLong}, {room(long), api.ErrLong}, {trap(room(long)), api.ErrLong}, {both, api.ErrLong},
		{unfit, api.ErrType}, {room(unfit), api.ErrType}, {trap(unfit), api.ErrType},
		{room(fine), api.ErrRoom}, {trap(room(fine)), api.ErrRoom},
		{trap(fine), api.ErrTrap},
	} {
		if r, e := run.New(c.m); e != c.want || (r != nil) != (e == api.OK) {
			t.Errorf("%d: New: %v, %d, not %d", k, r != nil, e, c.want)
		}
	}
}

// TestNewMemory: P9.1: there is a memory, if the module has one, of so many pages, which may grow as far.
func TestNewMemory(t *testing.T) {
	if y := made(t, alone(t, ">", "", "")).Memory(); y != nil {
		t.Error("a memory that there is not")
	}
	for _, c := range []struct {
		had        api.Memory
		pages, may int
		want       api.Errno
	}{
		{api.Memory{Min: 0, Max: 0}, 0, 0, api.OK}, {api.Memory{Min: 0, Max: -1}, 0, 256, api.OK}, {api.Memory{Min: 1, Max: 1}, 1, 0, api.OK}, {api.Memory{Min: 1, Max: 3}, 1, 2, api.OK},
		{api.Memory{Min: 1, Max: 65536}, 1, 255, api.OK}, {api.Memory{Min: 256, Max: -1}, 256, 0, api.OK}, {api.Memory{Min: 256, Max: 300}, 256, 0, api.OK},
		{api.Memory{Min: 257, Max: 257}, 0, 0, api.ErrRoom}, {api.Memory{Min: 65536, Max: -1}, 0, 0, api.ErrRoom}, {api.Memory{Min: 65537, Max: -1}, 0, 0, api.ErrType}, {api.Memory{Min: 2, Max: 1}, 0, 0, api.ErrType}, {api.Memory{Min: -1, Max: 1}, 0, 0, api.ErrArg},
	} {
		r, e := run.New(api.Module{Start: -1, Memory: []api.Memory{c.had}})
		if e != c.want || (r != nil) != (e == api.OK) {
			t.Errorf("New with %v: %v, %d, not %d", c.had, r != nil, e, c.want)
			continue
		}
		if e != api.OK {
			continue
		}
		y := r.Memory()
		if y == nil || y != r.Memory() || y.Pages() != c.pages || strings.Trim(whole(t, y), "\x00") != "" {
			t.Errorf("with %v another memory", c.had)
		} else if y.Grow(uint32(c.may)+1) != -1 || y.Grow(uint32(c.may)) != int32(c.pages) {
			t.Errorf("with %v another room to grow", c.had)
		}
	}
}

// TestNewData: P9.1: data stand in memory, in order, if there is room for them.
func TestNewData(t *testing.T) {
	type data = []api.Data
	for k, c := range []struct {
		pages int
		data  data
		at    int
		want  string // all else is 0
		e     api.Errno
	}{
		{1, nil, 0, "", api.OK},
		{1, data{{Offset: 0, Bytes: "abc"}}, 0, "abc", api.OK},
		{1, data{{Offset: 7, Bytes: "abc"}, {Offset: 8, Bytes: "XY"}}, 7, "aXY", api.OK},
		{1, data{{Offset: 8, Bytes: "XY"}, {Offset: 7, Bytes: "abc"}}, 7, "abc", api.OK},
		{1, data{{Offset: 8, Bytes: "X\x00Y"}, {Offset: 8, Bytes: ""}, {Offset: 11, Bytes: "\xff"}, {Offset: 10, Bytes: "\x00"}}, 8, "X\x00\x00\xff", api.OK},
		{1, data{{Offset: page - 1, Bytes: "z"}}, page - 1, "z", api.OK},
		{1, data{{Offset: page - 1, Bytes: "zz"}}, 0, "", api.ErrTrap},
		{1, data{{Offset: page, Bytes: ""}}, 0, "", api.OK},
		{1, data{{Offset: page + 1, Bytes: ""}}, 0, "", api.ErrTrap},
		{2, data{{Offset: page - 1, Bytes: "zz"}}, page - 1, "zz", api.OK},
		{1, data{{Offset: 0, Bytes: strings.Repeat("q", page)}}, 0, strings.Repeat("q", page), api.OK},
		{1, data{{Offset: 0, Bytes: strings.Repeat("q", page+1)}}, 0, "", api.ErrTrap},
		{1, data{{Offset: 0, Bytes: "a"}, {Offset: page, Bytes: "a"}, {Offset: 0, Bytes: "a"}}, 0, "", api.ErrTrap},
		{1, data{{Offset: -1, Bytes: "a"}}, 0, "", api.ErrTrap},
		{1, data{{Offset: -1, Bytes: ""}}, 0, "", api.ErrTrap},
		{1, data{{Offset: -1, Bytes: "ab"}}, 0, "", api.ErrTrap},
		{256, data{{Offset: math.MinInt32, Bytes: "a"}}, 0, "", api.ErrTrap},
		{256, data{{Offset: 256*page - 2, Bytes: "ab"}}, 256*page - 2, "ab", api.OK},
		{256, data{{Offset: math.MaxInt32, Bytes: "a"}}, 0, "", api.ErrTrap},
		{0, data{{Offset: 0, Bytes: ""}}, 0, "", api.OK},
		{0, data{{Offset: 0, Bytes: "a"}}, 0, "", api.ErrTrap},
	} {
		r, e := run.New(api.Module{Start: -1, Memory: []api.Memory{{Min: c.pages, Max: -1}}, Data: c.data})
		if e != c.e || (r != nil) != (e == api.OK) {
			t.Errorf("%d: %v, %d, not %d", k, r != nil, e, c.e)
			continue
		}
		zeros := strings.Repeat("\x00", c.pages*page)
		if e == api.OK && whole(t, r.Memory()) != zeros[:c.at]+c.want+zeros[c.at+len(c.want):] {
			t.Errorf("%d: something else stands there", k)
		}
	}
}

// TestGlobals: P9.1: globals have their Inits, an i32 with no upper half; of any other number there is none.
func TestGlobals(t *testing.T) {
	m := api.Module{Start: -1, Globals: []api.Global{{Type: 127, Init: 7}, {Type: 127, Mut: true, Init: -1}, {Type: 126, Init: -1}, {Type: 126, Mut: true, Init: math.MinInt64}, {Type: 127, Init: math.MinInt32}, {Type: 126, Init: math.MinInt32}, {Type: 126, Init: 1 << 40}}}
	r := made(t, m)
	want := []uint64{7, 1<<32 - 1, 1<<64 - 1, 1 << 63, 1 << 31, 1<<64 - 1<<31, 1 << 40}
	if got := globals(r); !slices.Equal(got, want) {
		t.Errorf("%x", got)
	}
	for _, n := range []int{-1, -2, 7, 8, 1 << 32, math.MinInt, math.MaxInt} {
		if g, ok := r.Global(n); g != 0 || ok {
			t.Errorf("Global(%d): %x, %v", n, g, ok)
		}
	}
	if g, ok := made(t, api.Module{Start: -1}).Global(0); g != 0 || ok {
		t.Error(g, ok)
	}
}

// TestFind: P9.1: exports by their names.
func TestFind(t *testing.T) {
	m := alone(t, ">", "", "")
	m = with(t, m, ">", "", "")
	m.Memory = []api.Memory{{Min: 0, Max: -1}}
	m.Globals = []api.Global{{Type: 127}, {Type: 127}, {Type: 127}}
	m.Exports = []api.Export{{Name: "f", Kind: 0, Index: 1}, {Name: "m", Kind: 2}, {Name: "g", Kind: 3, Index: 2}, {Name: "", Kind: 3, Index: 1}, {Name: "ff", Kind: 0}, {Name: "é\x00", Kind: 0, Index: 1}}
	r := made(t, m)
	for _, x := range m.Exports {
		if kind, index, ok := r.Find(x.Name); kind != x.Kind || index != x.Index || !ok {
			t.Errorf("Find(%q): %d, %d, %v", x.Name, kind, index, ok)
		}
	}
	for _, name := range []string{"F", "fff", " f", "é", "x", "\xff"} {
		if kind, index, ok := r.Find(name); kind != 0 || index != 0 || ok {
			t.Errorf("Find(%q): %d, %d, %v", name, kind, index, ok)
		}
	}
	if kind, index, ok := made(t, api.Module{Start: -1}).Find(""); kind != 0 || index != 0 || ok {
		t.Error(kind, index, ok)
	}
}

// TestStart: P9.1: Start is not called.
func TestStart(t *testing.T) {
	m := alone(t, ">", "", "i32.const 9; global.set 0; unreachable")
	m.Globals = []api.Global{{Type: 127, Mut: true, Init: 3}}
	m.Start = 0
	r := made(t, m)
	if g, _ := r.Global(0); g != 3 {
		t.Error(g)
	}
	calls(t, r, 0, nil, 10, nil, 7, api.ErrTrap)
	if g, _ := r.Global(0); g != 9 {
		t.Error(g)
	}
}

// full is a module with something of all kinds, the lists of which have spare room.
func full(t testing.TB) api.Module {
	t.Helper()
	m := with(t, api.Module{Start: -1}, "i>l", "l", "block; local.get 0; br_table 0 1; end; i64.const 5; local.set 1; i32.const 3; global.set 1; local.get 1; i32.const 8; i64.load 3")
	m.Funcs[0].Code = append(m.Funcs[0].Code[:len(m.Funcs[0].Code)-1], code(t, "i64.add; return")...)
	m.Funcs[0].Code[2].A = 0
	m.Memory = []api.Memory{{Min: 1, Max: 2}}
	m.Globals = []api.Global{{Type: 126, Init: 11}, {Type: 127, Mut: true, Init: 12}}
	m.Exports = []api.Export{{Name: "f"}, {Name: "g", Kind: 3, Index: 1}}
	m.Data = []api.Data{{Offset: 8, Bytes: "\x20"}, {Offset: 16, Bytes: "zz"}}
	m.Types, m.Funcs, m.Globals = slices.Grow(m.Types, 3), slices.Grow(m.Funcs, 3), slices.Grow(m.Globals, 3)
	m.Exports, m.Data, m.Memory = slices.Grow(m.Exports, 3), slices.Grow(m.Data, 3), slices.Grow(m.Memory, 3)
	m.Funcs[0].Code = slices.Grow(m.Funcs[0].Code, 3)
	return m
}

// spread is a module with its lists' spare room.
func spread(m api.Module) api.Module {
	m.Types, m.Funcs, m.Globals = m.Types[:cap(m.Types)], m.Funcs[:cap(m.Funcs)], m.Globals[:cap(m.Globals)]
	m.Exports, m.Data, m.Memory = m.Exports[:cap(m.Exports)], m.Data[:cap(m.Data)], m.Memory[:cap(m.Memory)]
	m.Funcs = slices.Clone(m.Funcs)
	for k := range m.Funcs {
		m.Funcs[k].Code = m.Funcs[k].Code[:cap(m.Funcs[k].Code)]
	}
	return m
}

// TestCopied: P9.1, P3: a machine has a copy of its module, and writes nothing into what it was given.
func TestCopied(t *testing.T) {
	m := full(t)
	was := module.Copy(spread(m))
	r, other := made(t, m), made(t, m)
	calls(t, r, 0, []uint64{0}, 100, []uint64{0x25}, 88, api.OK)
	if !reflect.DeepEqual(spread(m), was) {
		t.Error("what was handed in is another one")
	}
	for k := range m.Funcs[0].Code {
		for l := range m.Funcs[0].Code[k].Labels {
			m.Funcs[0].Code[k].Labels[l] = 99
		}
		m.Funcs[0].Code[k] = api.Instr{Op: 0, A: 5}
	}
	m.Types[0], m.Funcs[0], m.Memory[0] = api.FuncType{}, api.Func{Type: 9}, api.Memory{}
	m.Globals[0], m.Globals[1], m.Data[0], m.Data[1] = api.Global{}, api.Global{}, api.Data{}, api.Data{}
	m.Exports[0], m.Exports[1] = api.Export{Name: "x"}, api.Export{Name: "y"}
	for _, r := range []*run.Machine{r, other} {
		calls(t, r, 0, []uint64{1 << 40}, 100, []uint64{0x25}, 88, api.OK)
		if kind, index, ok := r.Find("g"); kind != 3 || index != 1 || !ok {
			t.Error(kind, index, ok)
		}
		if _, _, ok := r.Find("x"); ok {
			t.Error("an export that there was not")
		}
		if g := globals(r); !slices.Equal(g, []uint64{11, 3}) {
			t.Error(g)
		}
	}
}

// TestApart: P9.1: two machines of one module have nothing together.
func TestApart(t *testing.T) {
	m := alone(t, "i>", "", "local.get 0; global.set 0; i32.const 0; local.get 0; i32.store 2; memory.size; memory.grow; drop")
	m.Memory, m.Globals = []api.Memory{{Min: 1, Max: -1}}, []api.Global{{Type: 127, Mut: true}}
	a, b := made(t, m), made(t, m)
	calls(t, a, 0, []uint64{77}, 9, nil, 0, api.OK)
	if globals(a)[0] != 77 || globals(b)[0] != 0 || a.Memory().Pages() != 2 || b.Memory().Pages() != 1 || whole(t, a.Memory())[0] != 77 || whole(t, b.Memory())[0] != 0 {
		t.Error("what one does, the other one has")
	}
}

// TestMemoryShared: P9.1: Memory is the machine's own: what is written there is loaded, what is stored can be read there.
func TestMemoryShared(t *testing.T) {
	m := alone(t, "ii>i", "", "local.get 0; i32.load; local.get 0; local.get 1; i32.store")
	m = with(t, m, ">i", "", "memory.size; i32.const 1; memory.grow; drop")
	m.Memory = []api.Memory{{Min: 1, Max: 4}}
	r := made(t, m)
	y := r.Memory()
	y.Write(100, "\x01\x02\x03\x04")
	calls(t, r, 0, []uint64{100, 0xa1b2c3d4}, 6, []uint64{0x04030201}, 0, api.OK)
	if s, _ := y.Bytes(99, 6); s != "\x00\xd4\xc3\xb2\xa1\x00" {
		t.Errorf("%x", s)
	}
	calls(t, r, 1, nil, 5, []uint64{1}, 0, api.OK)
	if y.Pages() != 2 || y.Grow(1) != 2 || r.Memory() != y {
		t.Error(y.Pages())
	}
	calls(t, r, 1, nil, 5, []uint64{3}, 0, api.OK)
	calls(t, r, 1, nil, 5, []uint64{4}, 0, api.OK)
	if y.Pages() != 4 {
		t.Error(y.Pages())
	}
}

// TestTogether: P4: machines beside one another, in goroutines of their own, do what each of them does alone.
func TestTogether(t *testing.T) {
	m := full(t)
	m = with(t, m, "i>i", "i", "block; loop; local.get 0; i32.eqz; br_if 1; local.get 1; local.get 0; i32.add; local.set 1; i32.const 4; local.get 1; i32.store; local.get 0; i32.const 1; i32.sub; local.set 0; br 0; end; end; i32.const 4; i32.load; global.set 1; local.get 1")
	var all sync.WaitGroup
	for n := range uint64(8) {
		all.Go(func() {
			r, e := run.New(m)
			if e != api.OK {
				t.Error(e)
				return
			}
			for k := range uint64(40) {
				calls(t, r, 1, []uint64{n + k}, 10000, []uint64{(n + k) * (n + k + 1) / 2}, 10000-10-15*int(n+k), api.OK)
				if g, _ := r.Global(1); g != (n+k)*(n+k+1)/2 {
					t.Error(n, k, g)
				}
			}
		})
	}
	all.Wait()
}
