package run_test

import (
	"math"
	"runtime"
	"slices"
	"strings"
	"testing"

	"tuckmill/api"
)

// TestCallWrong: P9.2: no such function, another number of args, fuel below 0: nothing is done, and left is the fuel.
func TestCallWrong(t *testing.T) {
	m := alone(t, "il>", "", "i32.const 1; global.set 0")
	m = with(t, m, ">", "", "i32.const 1; global.set 0")
	m.Globals = []api.Global{{Type: 127, Mut: true}}
	r := made(t, m)
	for _, fuel := range []int{0, 1, 100, math.MaxInt, -1, math.MinInt} {
		for _, f := range []int{-1, 2, 3, 1 << 32, math.MinInt, math.MaxInt} {
			calls(t, r, f, nil, fuel, nil, fuel, api.ErrArg)
			calls(t, r, f, values(1, 2), fuel, nil, fuel, api.ErrArg)
		}
		for _, args := range [][]uint64{nil, values(1), values(1, 2, 3), make([]uint64, 5000)} {
			calls(t, r, 0, args, fuel, nil, fuel, api.ErrArg)
		}
		calls(t, r, 1, values(1), fuel, nil, fuel, api.ErrArg)
		if fuel < 0 {
			calls(t, r, 0, values(1, 2), fuel, nil, fuel, api.ErrArg)
			calls(t, r, 1, nil, fuel, nil, fuel, api.ErrArg)
		}
	}
	if g, _ := r.Global(0); g != 0 {
		t.Error("something is done")
	}
	calls(t, r, 0, values(1, 2), 0, nil, 0, api.ErrFuel)
	calls(t, r, 1, nil, 3, nil, 0, api.OK)
	calls(t, made(t, api.Module{Start: -1}), 0, nil, 5, nil, 5, api.ErrArg)
}

// TestArgs: P9.2, P3: args are not written into, nor what stands behind them; results are new memory.
func TestArgs(t *testing.T) {
	r := made(t, alone(t, "il>l", "l", "i32.const 3; local.set 0; local.get 1; local.get 1; i64.const 4; local.set 1; i64.const 5; local.set 2; drop"))
	all := []uint64{1<<40 | 1, 2, 77, 78, 79}
	args := all[:2]
	a, left, e := r.Call(0, args, 10)
	if !slices.Equal(a, []uint64{2}) || left != 0 || e != api.OK {
		t.Error(a, left, e)
	}
	if !slices.Equal(all, []uint64{1<<40 | 1, 2, 77, 78, 79}) {
		t.Errorf("%x", all)
	}
	a = a[:cap(a)]
	for k := range a {
		a[k] = 99
	}
	calls(t, r, 0, args, 10, []uint64{2}, 0, api.OK)
	b, _, _ := r.Call(0, args, 10)
	c, _, _ := r.Call(0, []uint64{1, 8}, 10)
	if b[0] != 2 || c[0] != 8 {
		t.Error(b, c)
	}
}

// TestStays: P9.2: with an error memory and globals stay as they are by then, and the machine can be used as before.
func TestStays(t *testing.T) {
	const text = "i32.const 8; i32.const 1; i32.store; i32.const 1; memory.grow; drop; i32.const 7; global.set 0; "
	const behind = "; i32.const 8; i32.const 2; i32.store"
	for _, c := range []struct {
		text string
		fuel int
		e    api.Errno
		left int
	}{
		{text + "unreachable" + behind, 100, api.ErrTrap, 91},
		{text + "i32.const 1; i32.const 0; i32.div_s; drop" + behind, 100, api.ErrTrap, 89},
		{text + "i32.const -1; i64.load; drop" + behind, 100, api.ErrTrap, 90},
		{text + "i32.const 196605; i32.const -1; i32.store" + behind, 100, api.ErrTrap, 89},
		{text + "call 3" + behind, 10, api.ErrFuel, 0},
		{text + "nop" + behind, 8, api.ErrFuel, 0},
		{text + "nop" + behind, 11, api.ErrFuel, 0},
		{text + "loop; br 0; end" + behind, 1000, api.ErrFuel, 0},
		{text + strings.Repeat("i64.const 1; ", 4097) + "unreachable", 10000, api.ErrLong, 10000 - 8 - 4097},
	} {
		r := made(t, with(t, world(t), ">", "", c.text))
		calls(t, r, 6, nil, c.fuel, nil, c.left, c.e)
		if n, _ := r.Memory().Load(8, 8); n != 1 || r.Memory().Pages() != 2 || !slices.Equal(globals(r), values(7, 1<<64-6, 7)) {
			t.Errorf("%.300s: %x, %d, %x", c.text, n, r.Memory().Pages(), globals(r))
		}
		calls(t, r, 2, nil, 5, values(9), 0, api.OK)
		calls(t, r, 6, nil, c.fuel, nil, c.left, c.e)
		if r.Memory().Pages() != 3 {
			t.Error(r.Memory().Pages())
		}
	}
}

// TestDeepCalls: P9.2: 256 calls may be in one another, that by Call among them; one more is ErrLong, at a call that has taken its fuel.
func TestDeepCalls(t *testing.T) {
	// A call takes 6 up to another one in it, and 2 behind that; 3, if there is none in it.
	r := made(t, alone(t, "i>", "", "local.get 0; if; local.get 0; i32.const 1; i32.sub; call 0; end"))
	for _, n := range []int{0, 1, 2, 254, 255} {
		calls(t, r, 0, values(uint64(n)), 10000, nil, 10000-8*n-3, api.OK)
	}
	for _, n := range []uint64{256, 257, 300, 1<<32 - 1} {
		calls(t, r, 0, values(n), 10000, nil, 10000-6*256, api.ErrLong)
		calls(t, r, 0, values(n), 6*256, nil, 0, api.ErrLong)
		calls(t, r, 0, values(n), 6*256-1, nil, 0, api.ErrFuel)
	}
	// One behind the other there may be as many as there is fuel for.
	r = made(t, with(t, alone(t, ">", "", ""), "i>", "", "loop; call 0; local.get 0; i32.const 1; i32.sub; local.tee 0; br_if 0; end"))
	calls(t, r, 1, values(5000), 100000, nil, 100000-3-5000*7, api.OK)
	// Each way back from a call makes room for another one.
	for _, way := range []string{"", "return", "br 0", "block; br 1; end", "block; block; return; end; end", "i32.const 1; br_if 0", "i32.const 5; br_table 0"} {
		m := alone(t, ">", "", way)
		m = with(t, m, ">", "", strings.Repeat("call 0; ", 300))
		m = with(t, m, "i>", "", "local.get 0; if; local.get 0; i32.const 1; i32.sub; call 2; else; call 1; end")
		r := made(t, m)
		if _, _, e := r.Call(2, values(253), 100000); e != api.OK {
			t.Errorf("with %q: %d", way, e)
		}
		if _, _, e := r.Call(2, values(254), 100000); e != api.ErrLong {
			t.Errorf("with %q: %d", way, e)
		}
	}
}

// TestFull: P9.2: of 4096 values on the stack what puts another one is ErrLong; what takes as many ahead is not.
func TestFull(t *testing.T) {
	const full = 4096
	for _, c := range []struct {
		text string
		used int // how much fuel it takes
		e    api.Errno
	}{
		{"i32.const 1; drop", 1, api.ErrLong}, {"i64.const 1; drop", 1, api.ErrLong}, {"local.get 0; drop", 1, api.ErrLong}, {"global.get 0; drop", 1, api.ErrLong}, {"memory.size; drop", 1, api.ErrLong},
		{"call 2; drop", 2, api.ErrLong}, // in what is called
		{"block i32; i32.const 1; end; drop", 2, api.ErrLong},
		{"loop i32; i32.const 1; end; drop", 2, api.ErrLong},
		{"if i32; i32.const 1; else; i32.const 1; i32.const 1; drop; end", 3, api.ErrLong},
		{"nop; i32.eqz; local.get 0; unreachable", 3, api.ErrLong},
		{"local.tee 0", 1, api.OK}, {"i32.load", 1, api.OK}, {"memory.grow", 1, api.OK}, {"i32.eqz", 1, api.OK}, {"i32.add; i32.const 1", 2, api.OK}, {"i64.extend_i32_u; i32.wrap_i64", 2, api.OK},
		{"drop; i32.const 3", 2, api.OK}, {"select; i32.const 1; i32.const 1", 3, api.OK}, {"global.set 0; global.get 0", 2, api.OK}, {"i32.store; i32.const 1; local.get 0", 3, api.OK},
		{"nop", 1, api.OK}, {"block; end", 2, api.OK}, {"block; br 0; end", 2, api.OK}, {"loop; end", 2, api.OK}, {"if; end; i32.const 1", 2, api.OK}, {"if i32; unreachable; else; i32.const 1; end", 3, api.OK},
		{"call 0; i32.const 1", 6, api.OK}, // two are taken, two may stand in it
		{"call 5", 8, api.OK},
		{"br_if 0; i32.const 1", 2, api.OK}, // what would be carried stays
		{"drop; block i32; i32.const 1; br 0; end", 4, api.OK},
	} {
		r := made(t, with(t, world(t), "i>i", "", strings.Repeat("i32.const 0; ", full)+c.text+strings.Repeat("; drop", full-1)))
		got, left, e := r.Call(6, values(0), 10000)
		want := 10000 - full - c.used
		if e == api.OK {
			want -= full // to drop them, and the end
		}
		if e != c.e || left != want || len(got) != map[api.Errno]int{api.OK: 1}[e] {
			t.Errorf("%s: %x, %d, %d, not %d, %d", c.text, got, left, e, want, c.e)
		}
		if c.e == api.ErrLong && c.text[:4] != "call" { // with one value less there is room
			r := made(t, with(t, world(t), "i>i", "", strings.Repeat("i32.const 0; ", full-1)+c.text+strings.Repeat("; drop", full-2)))
			if _, _, e := r.Call(6, values(0), 10000); e != api.OK && !strings.Contains(c.text, "unreachable") || e == api.ErrLong {
				t.Errorf("%s, with one value less: %d", c.text, e)
			}
		}
	}
}

// TestFullTogether: P9.2: the values of all calls are counted together, but no locals, and no args that have been taken.
func TestFullTogether(t *testing.T) {
	// Each call has so many values standing, and two more, when it asks whether to call another one; these are taken then.
	for _, many := range []int{16, 100, 1000, 4094} {
		m := alone(t, "i>", "", strings.Repeat("i64.const 1; ", many)+"local.get 0; if; local.get 0; i32.const 1; i32.sub; call 0; end"+strings.Repeat("; drop", many))
		b := newBeside(t, m)
		for n := range 256 {
			want := api.OK
			if (n+1)*many+1 > 4096 || n > 0 && n*many+2 > 4096 {
				want = api.ErrLong
			}
			if _, _, e := b.call(0, values(uint64(n)), 1<<20); e != want {
				t.Errorf("%d values in each of %d calls: %d", many, n+1, e)
			}
		}
	}
	// Of 4096 params, 4096 locals.
	lots := strings.Repeat("i", 4096)
	m := alone(t, lots+">i", lots, "local.get 0; local.get 4095; i32.add; local.get 8191; i32.add; i32.const 5; local.set 8191")
	m = with(t, m, ">i", "", strings.Repeat("i32.const 7; ", 4096)+"call 0")
	m = with(t, m, "i>", lots, "local.get 0; if; local.get 0; i32.const 1; i32.sub; call 2; else; call 1; drop; end")
	b := newBeside(t, m)
	b.call(0, slices.Repeat(values(9), 4096), 100)
	for _, n := range []uint64{0, 1, 200, 253, 254} {
		b.call(2, values(n), 10000)
		b.call(2, values(n), 10000)
	}
	if _, _, e := b.call(2, values(253), 10000); e != api.OK {
		t.Error(e)
	}
}

// TestRoom: P1: calls behind one another, and blocks that are gone to again and again, take no more room than one.
func TestRoom(t *testing.T) {
	m := alone(t, ">", strings.Repeat("l", 4096), "")
	m = with(t, m, "i>", "", "loop; block; block; call 0; i64.const 1; br 0; end; local.get 0; i32.const 1; i32.sub; local.tee 0; br_if 1; end; end")
	r := made(t, m)
	var before, behind runtime.MemStats
	runtime.ReadMemStats(&before)
	calls(t, r, 1, values(5000), 1<<20, nil, 1<<20-5000*11-4, api.OK)
	runtime.ReadMemStats(&behind)
	if n := behind.TotalAlloc - before.TotalAlloc; n > 1<<22 {
		t.Errorf("%d bytes", n)
	}
}
