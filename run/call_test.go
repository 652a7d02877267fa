package run_test

import (
	"math"
	"slices"
	"strings"
	"testing"

	"tuckmill/api"
)

// world is a module whose parts the functions under test may name; these come behind its own, as number 6.
func world(t testing.TB) api.Module {
	t.Helper()
	m := api.Module{
		Start:   -1,
		Memory:  []api.Memory{{Min: 1, Max: 3}},
		Globals: []api.Global{{Type: 127, Mut: true, Init: 5}, {Type: 126, Mut: true, Init: -6}, {Type: 126, Init: 7}},
		Data:    []api.Data{{Offset: 16, Bytes: "\x81\x92\xa3\xb4\xc5\xd6\xe7\xf8"}, {Offset: page - 8, Bytes: "\x01\x02\x03\x04\x05\x06\x07\x08"}},
	}
	m = with(t, m, "ii>i", "", "local.get 0; local.get 1; i32.sub")                                                                                                                // 0
	m = with(t, m, "l>", "", "local.get 0; global.set 1")                                                                                                                          // 1
	m = with(t, m, ">i", "il", "i64.const 3; block; i32.const 4; i32.const 9; return; end; drop; i32.const 1")                                                                     // 2
	m = with(t, m, ">", "", "nop; unreachable")                                                                                                                                    // 3
	m = with(t, m, "il>l", "l", "local.get 2; local.get 1; local.tee 2; i64.add; br 0")                                                                                            // 4
	m = with(t, m, "i>i", "i", "local.get 0; i32.eqz; if i32; local.get 1; else; i32.const 77; local.set 1; local.get 0; i32.const 1; i32.sub; call 5; local.get 1; i32.add; end") // 5
	return m
}

// done is a function, called with args, and what is asked of it.
type done struct {
	kind, locals, text string
	args, want         []uint64
	used               int // how much fuel it takes
	e                  api.Errno
}

func (c done) run(t *testing.T) {
	t.Helper()
	m := with(t, world(t), c.kind, c.locals, c.text)
	for _, more := range []int{0, 1, 1000, math.MaxInt - c.used} { // P9.4
		got, left, e := made(t, m).Call(6, c.args, c.used+more)
		if !slices.Equal(got, c.want) || left != more || e != c.e {
			t.Errorf("%s, of %x, with %d of fuel: %x, %d, %d, not %x, %d, %d", c.text, c.args, c.used+more, got, left, e, c.want, more, c.e)
		}
	}
	for less := range c.used {
		if got, left, e := made(t, m).Call(6, c.args, less); len(got) > 0 || left != 0 || e != api.ErrFuel {
			t.Errorf("%s, of %x, with %d of fuel: %x, %d, %d", c.text, c.args, less, got, left, e)
		}
	}
	newBeside(t, m).call(6, c.args, c.used+5) // so that the model, too, is held against what is known
}

func runAll(t *testing.T, l []done) {
	t.Helper()
	for _, c := range l {
		c.run(t)
	}
}

func values(l ...uint64) []uint64 { return l }

// TestFlow: P9.2, P9.3: what leads through the code, and how much fuel it takes.
func TestFlow(t *testing.T) {
	runAll(t, []done{
		{">", "", "", nil, nil, 1, 0},
		{">", "", "nop; nop", nil, nil, 3, 0},
		{">i", "", "i32.const 7", nil, values(7), 2, 0},
		{">", "", "unreachable", nil, nil, 1, api.ErrTrap},
		{">", "", "nop; unreachable; nop", nil, nil, 2, api.ErrTrap},
		// Blocks: each is begun, and ended.
		{">", "", "block; end", nil, nil, 3, 0},
		{">", "", "loop; end", nil, nil, 3, 0},
		{">i", "", "block i32; i32.const 4; end", nil, values(4), 4, 0},
		{">i", "", "loop i32; i32.const 4; end", nil, values(4), 4, 0},
		{">i", "", "i32.const 9; loop i32; i32.const 4; end; i32.sub", nil, values(5), 6, 0},
		{">", "", "block; block; loop; end; end; block; end; end", nil, nil, 9, 0},
		// A br goes behind the end, which is not done then; that to the function returns.
		{">", "", "br 0", nil, nil, 1, 0},
		{">", "", "block; br 0; unreachable; end", nil, nil, 3, 0},
		{">", "", "block; br 1; end; unreachable", nil, nil, 2, 0},
		{">", "", "block; block; br 1; end; unreachable; end", nil, nil, 4, 0},
		{">", "", "block; block; br 0; end; end", nil, nil, 5, 0},
		{">", "", "block; block; block; br 2; end; unreachable; end; unreachable; end; nop", nil, nil, 6, 0},
		{">", "", "block; loop; br 1; end; unreachable; end", nil, nil, 4, 0},
		{">i", "", "i32.const 3; br 0", nil, values(3), 2, 0},
		{">i", "", "block i32; i32.const 8; br 0; end", nil, values(8), 4, 0},
		{">l", "", "i64.const 1; i64.const 2; br 0", nil, values(2), 3, 0},
		{">i", "", "i32.const 100; block i32; i64.const 1; i32.const 2; i32.const 3; br 0; end; i32.sub", nil, values(97), 8, 0},
		{">i", "", "i32.const 100; block; i64.const 1; i32.const 2; br 0; end", nil, values(100), 6, 0},
		{">i", "", "i32.const 100; block i32; i64.const 1; block; i32.const 2; i32.const 3; br 1; end; unreachable; end; i32.sub", nil, values(97), 9, 0},
		{">i", "", "i32.const 100; block; i32.const 3; br 1; end", nil, values(3), 4, 0},
		// A br to a loop goes on behind what opened it.
		{"i>", "", "loop; local.get 0; i32.eqz; br_if 1; local.get 0; i32.const 1; i32.sub; local.set 0; br 0; end", values(0), nil, 4, 0},
		{"i>", "", "loop; local.get 0; i32.eqz; br_if 1; local.get 0; i32.const 1; i32.sub; local.set 0; br 0; end", values(3), nil, 28, 0},
		{"i>i", "", "loop; local.get 0; i32.const 1; i32.sub; local.tee 0; br_if 0; end; local.get 0", values(1), values(0), 9, 0},
		{"i>i", "", "loop; local.get 0; i32.const 1; i32.sub; local.tee 0; br_if 0; end; local.get 0", values(4), values(0), 24, 0},
		{"i>l", "", "i64.const 5; loop; i32.const 1; i64.const 1; local.get 0; i32.const 1; i32.sub; local.tee 0; br_if 0; drop; drop; end", values(3), values(5), 27, 0},
		{"i>i", "", "i32.const 50; loop i32; local.get 0; i32.const 1; i32.sub; local.tee 0; br_if 0; i32.const 8; end; i32.sub", values(2), values(42), 16, 0},
		{"i>", "", "loop; block; local.get 0; i32.const 1; i32.sub; local.tee 0; br_if 1; end; end", values(2), nil, 16, 0},
		{"i>i", "", "loop; local.get 0; i32.const 1; i32.sub; local.tee 0; br_if 0; end; loop; local.get 0; i32.const 1; i32.add; local.tee 0; i32.const 2; i32.lt_u; br_if 0; end; local.get 0", values(2), values(2), 30, 0},
		// return.
		{">", "", "return", nil, nil, 1, 0},
		{">", "", "block; loop; return; end; end; unreachable", nil, nil, 3, 0},
		{">i", "", "i32.const 1; block; i64.const 4; i32.const 2; return; end", nil, values(2), 5, 0},
		{">l", "", "i32.const 1; i64.const 2; return", nil, values(2), 3, 0},
	})
}

// TestIf: P9.3: an if, whose value is not 0, and is; an else that is reached; a br out of an if, and to one.
func TestIf(t *testing.T) {
	const both = "local.get 0; if i32; i32.const 10; else; i32.const 20; nop; end"
	runAll(t, []done{
		{"i>i", "", both, values(1), values(10), 6, 0}, // local.get, if, i32.const, else, end, end
		{"i>i", "", both, values(0), values(20), 6, 0}, // local.get, if, i32.const, nop, end, end
		{"i>i", "", both, values(1 << 31), values(10), 6, 0},
		{"i>i", "", both, values(1 << 32), values(20), 6, 0},
		{"i>", "", "local.get 0; if; nop; end", values(5), nil, 5, 0},
		{"i>", "", "local.get 0; if; nop; end", values(0), nil, 3, 0}, // not its end
		{"i>", "", "local.get 0; if; end", values(0), nil, 3, 0},
		{"i>", "", "local.get 0; if; end", values(1), nil, 4, 0},
		{"i>", "", "local.get 0; if; else; end", values(1), nil, 5, 0},
		{"i>", "", "local.get 0; if; else; end", values(0), nil, 4, 0},
		{"i>", "", "local.get 0; if; nop; nop; else; end", values(0), nil, 4, 0},
		{"i>", "", "local.get 0; if; else; nop; nop; end", values(0), nil, 6, 0},
		{"i>", "", "local.get 0; if; unreachable; else; end", values(0), nil, 4, 0},
		{"i>", "", "local.get 0; if; unreachable; else; end", values(1), nil, 3, api.ErrTrap},
		{"i>", "", "local.get 0; if; else; unreachable; end", values(0), nil, 3, api.ErrTrap},
		{"i>", "", "local.get 0; if; else; unreachable; end", values(1), nil, 5, 0},
		{"i>i", "", "local.get 0; if i32; i32.const 1; br 0; else; i32.const 2; br 0; end", values(7), values(1), 5, 0},
		{"i>i", "", "local.get 0; if i32; i32.const 1; br 0; else; i32.const 2; br 0; end", values(0), values(2), 5, 0},
		{"i>i", "", "local.get 0; if i32; i32.const 1; br 1; else; i32.const 2; br 1; end; unreachable", values(0), values(2), 4, 0},
		{"i>i", "", "i32.const 40; local.get 0; if; i32.const 3; br 1; end", values(1), values(3), 5, 0},
		{"i>i", "", "i32.const 40; local.get 0; if; i32.const 3; br 1; end", values(0), values(40), 4, 0},
		{"i>", "", "local.get 0; if; br 0; unreachable; end; nop", values(1), nil, 5, 0},
		// ifs in one another, on both sides.
		{"ii>i", "", "local.get 0; if i32; local.get 1; if i32; i32.const 1; else; i32.const 2; end; else; local.get 1; if i32; i32.const 3; else; i32.const 4; end; end", values(1, 1), values(1), 10, 0},
		{"ii>i", "", "local.get 0; if i32; local.get 1; if i32; i32.const 1; else; i32.const 2; end; else; local.get 1; if i32; i32.const 3; else; i32.const 4; end; end", values(1, 0), values(2), 9, 0},
		{"ii>i", "", "local.get 0; if i32; local.get 1; if i32; i32.const 1; else; i32.const 2; end; else; local.get 1; if i32; i32.const 3; else; i32.const 4; end; end", values(0, 1), values(3), 9, 0},
		{"ii>i", "", "local.get 0; if i32; local.get 1; if i32; i32.const 1; else; i32.const 2; end; else; local.get 1; if i32; i32.const 3; else; i32.const 4; end; end", values(0, 0), values(4), 8, 0},
		{"ii>i", "", "local.get 0; if; local.get 1; if; end; else; local.get 1; if; nop; end; end; i32.const 6", values(0, 0), values(6), 7, 0},
		// An if in a loop, opened again and again.
		{"i>i", "i", "loop; local.get 0; if; local.get 1; i32.const 2; i32.add; local.set 1; local.get 0; i32.const 1; i32.sub; local.set 0; br 1; end; end; local.get 1", values(3), values(6), 39, 0},
	})
}

// TestTable: P9.3: br_table goes to the label of that number, to A if there are not as many.
func TestTable(t *testing.T) {
	const text = "block; block; block; local.get 0; br_table 1 0 2 3; end; i32.const 10; return; end; i32.const 11; return; end; i32.const 12; return"
	out := strings.Replace(text, "0 2 3", "0 2 2", 1)
	runAll(t, []done{
		{"i>i", "", out, values(0), values(11), 7, 0},
		{"i>i", "", out, values(1), values(10), 7, 0},
		{"i>i", "", out, values(2), values(12), 7, 0},
		{"i>i", "", out, values(3), values(12), 7, 0},
		{"i>i", "", out, values(1<<32 - 1), values(12), 7, 0},
		{"i>i", "", out, values(1 << 31), values(12), 7, 0},
		{"i>i", "", out, values(1 << 32), values(11), 7, 0},
		{"i>i", "", "block; block; local.get 0; br_table 0; end; i32.const 1; return; end; i32.const 2", values(0), values(1), 6, 0},
		{"i>i", "", "block; block; local.get 0; br_table 1; end; i32.const 1; return; end; i32.const 2", values(9), values(2), 6, 0},
		// With values: the one on top stays, what is below it goes.
		{"i>i", "", "i32.const 100; block i32; i32.const 5; block i32; i32.const 6; i32.const 7; local.get 0; br_table 1 0 2; end; i32.sub; end; i32.sub", values(0), values(93), 10, 0},
		{"i>i", "", "i32.const 100; block i32; i32.const 5; block i32; i32.const 6; i32.const 7; local.get 0; br_table 1 0 2; end; i32.sub; end; i32.sub", values(1), values(102), 12, 0},
		{"i>i", "", "i32.const 100; block i32; i32.const 5; block i32; i32.const 6; i32.const 7; local.get 0; br_table 1 0 2; end; i32.sub; end; i32.sub", values(2), values(7), 8, 0},
		// To loops.
		{"i>i", "i", "loop; block; local.get 1; i32.const 1; i32.add; local.tee 1; local.get 0; i32.ge_u; br_table 1 0; end; end; local.get 1", values(3), values(3), 28, 0},
	})
}

// TestBrIf: P9.3: br_if takes its value; where it does not go, what it would have carried stays.
func TestBrIf(t *testing.T) {
	runAll(t, []done{
		{"i>i", "", "block i32; i32.const 3; i32.const 4; local.get 0; br_if 0; i32.sub; end", values(0), values(1<<32 - 1), 8, 0},
		{"i>i", "", "block i32; i32.const 3; i32.const 4; local.get 0; br_if 0; i32.sub; end", values(2), values(4), 6, 0},
		{"i>i", "", "block i32; i32.const 3; i32.const 4; local.get 0; br_if 1; i32.sub; end; unreachable", values(1 << 31), values(4), 5, 0},
		{"i>", "", "block; local.get 0; br_if 0; unreachable; end", values(1), nil, 4, 0},
		{"i>", "", "block; local.get 0; br_if 0; unreachable; end", values(0), nil, 4, api.ErrTrap},
		{"i>", "", "block; local.get 0; br_if 0; unreachable; end", values(1 << 32), nil, 4, api.ErrTrap},
		{"i>", "", "local.get 0; br_if 0; unreachable", values(1), nil, 2, 0},
	})
}

// TestCalls: P9.2, P9.3: functions that are called: what they take, what they answer, and what becomes of their locals.
func TestCalls(t *testing.T) {
	runAll(t, []done{
		{">i", "", "i32.const 9; i32.const 4; call 0", nil, values(5), 8, 0},
		{">i", "", "i32.const 100; i32.const 9; i32.const 4; call 0; i32.sub", nil, values(95), 10, 0},
		{">l", "", "i64.const 1; i64.const 8; call 1; global.get 1; i64.sub", nil, values(1<<64 - 7), 9, 0},
		{">i", "", "i32.const 100; call 2; i32.sub", nil, values(91), 9, 0},
		{">i", "", "i32.const 1; call 3", nil, nil, 4, api.ErrTrap},
		{">", "", "call 3; unreachable", nil, nil, 3, api.ErrTrap},
		// A local is 0 in each call, whatever stood there in another one.
		{">l", "", "i32.const 5; i64.const 6; call 4; i32.const 7; i64.const 8; call 4; i64.sub", nil, values(1<<64 - 2), 18, 0},
		{">l", "lll", "i64.const 5; local.tee 0; local.tee 1; local.set 2; i32.const 5; i64.const 6; call 4; local.get 0; local.get 1; local.get 2; i64.add; i64.add; i64.add", nil, values(21), 19, 0},
		{">i", "", "i32.const 3; call 5", nil, values(231), 49, 0},
		{">i", "", "i32.const 0; call 5", nil, values(0), 10, 0},
		// A br goes no further than to the function's end.
		{">l", "", "block; i32.const 1; i64.const 2; call 4; drop; end; i64.const 3", nil, values(3), 13, 0},
		{"ii>i", "", "loop i32; local.get 0; local.get 1; call 0; end", values(7, 9), values(1<<32 - 2), 10, 0},
	})
}

// TestVariables: P9.2, P9.3: locals are the args, and 0; globals; drop, select and consts.
func TestVariables(t *testing.T) {
	const all, high = 1<<64 - 1, 1<<32 - 1
	runAll(t, []done{
		{"il>i", "", "local.get 0", values(all, all), values(high), 2, 0},
		{"il>l", "", "local.get 1", values(all, all-1), values(all - 1), 2, 0},
		{"li>i", "", "local.get 1", values(3, 1<<63|5), values(5), 2, 0},
		{"li>l", "", "local.get 0", values(1<<63|5, 9), values(1<<63 | 5), 2, 0},
		{">i", "li", "local.get 1", nil, values(0), 2, 0},
		{">l", "li", "local.get 0", nil, values(0), 2, 0},
		{"i>l", "lil", "local.get 3", values(8), values(0), 2, 0},
		{"i>l", "lil", "i64.const -3; local.set 3; i64.const 5; local.set 1; local.get 3", values(8), values(all - 2), 6, 0},
		{"ii>i", "", "local.get 0; local.set 1; local.get 1; local.get 1; i32.add", values(8, 1), values(16), 6, 0},
		{"i>i", "i", "local.get 0; local.tee 1; local.get 1; i32.mul", values(8), values(64), 5, 0},
		{">i", "", "global.get 0", nil, values(5), 2, 0},
		{">l", "", "global.get 1; global.get 2; i64.add", nil, values(1), 4, 0},
		{">i", "", "i32.const -7; global.set 0; global.get 0", nil, values(high - 6), 4, 0},
		{">l", "", "i64.const -7; global.set 1; i32.const 3; global.set 0; global.get 1", nil, values(all - 6), 6, 0},
		{">i", "", "i32.const 1; i64.const 2; drop; i32.const 3; drop", nil, values(1), 6, 0},
		{"i>i", "", "i32.const 9; i32.const 1; i32.const 2; local.get 0; select; i32.sub", values(5), values(8), 7, 0},
		{"i>i", "", "i32.const 9; i32.const 1; i32.const 2; local.get 0; select; i32.sub", values(0), values(7), 7, 0},
		{"i>l", "", "i64.const -1; i64.const 2; local.get 0; select", values(1 << 31), values(all), 5, 0},
		{"i>l", "", "i64.const -1; i64.const 2; local.get 0; select", values(1 << 32), values(2), 5, 0},
		{">i", "", "i32.const -2147483648", nil, values(1 << 31), 2, 0},
		{">i", "", "i32.const 2147483647", nil, values(1<<31 - 1), 2, 0},
		{">i", "", "i32.const -1", nil, values(high), 2, 0},
		{">l", "", "i64.const -9223372036854775808", nil, values(1 << 63), 2, 0},
		{">l", "", "i64.const -1", nil, values(all), 2, 0},
	})
}

// TestPages: P9.3: memory.size, and memory.grow as Grow does.
func TestPages(t *testing.T) {
	const high = 1<<32 - 1
	runAll(t, []done{
		{">i", "", "memory.size", nil, values(1), 2, 0},
		{"i>i", "", "local.get 0; memory.grow", values(1), values(1), 3, 0},
		{"i>i", "", "local.get 0; memory.grow", values(0), values(1), 3, 0},
		{"i>i", "", "local.get 0; memory.grow", values(2), values(1), 3, 0},
		{"i>i", "", "local.get 0; memory.grow", values(3), values(high), 3, 0},
		{"i>i", "", "local.get 0; memory.grow", values(high), values(high), 3, 0},
		{"i>i", "", "local.get 0; memory.grow", values(1 << 31), values(high), 3, 0},
		{"i>i", "", "local.get 0; memory.grow", values(1<<32 | 1), values(1), 3, 0},
		{"i>i", "", "local.get 0; memory.grow; drop; memory.size", values(2), values(3), 5, 0},
		{"i>i", "", "local.get 0; memory.grow; drop; memory.size", values(3), values(1), 5, 0},
		{"i>i", "", "local.get 0; memory.grow; drop; i32.const 1; memory.grow", values(1), values(2), 6, 0},
		{">i", "", "i32.const 65536; i32.load", nil, nil, 2, api.ErrTrap},
		{"i>i", "", "local.get 0; memory.grow; drop; i32.const 131068; i32.load", values(1), values(0), 6, 0},
		{"i>i", "", "local.get 0; memory.grow; drop; i32.const 131069; i32.load", values(1), nil, 5, api.ErrTrap},
		{"i>l", "", "local.get 0; memory.grow; drop; i32.const 65532; i64.load", values(1), values(0x08070605), 6, 0},
	})
}
