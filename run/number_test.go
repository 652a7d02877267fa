package run_test

import (
	"slices"
	"strconv"
	"testing"

	"tuckmill/api"
	"tuckmill/num"
	"tuckmill/op"
)

// TestNumbers: P9.3: each instruction of chapter 2 does what that says, with what was put first as a.
func TestNumbers(t *testing.T) {
	edges := []uint64{0, 1, 2, 5, 31, 32, 33, 63, 64, 1<<31 - 1, 1 << 31, 1<<32 - 7, 1<<32 - 1, 1 << 32, 1<<63 - 1, 1 << 63, 1<<64 - 9, 1<<64 - 1}
	many := 0
	for c := range 256 {
		info, ok := op.Of(c)
		if !ok || info.Shape != op.Plain || info.Params == "" {
			continue
		}
		many++
		m := api.Module{Start: -1, Types: []api.FuncType{{Params: info.Params, Results: info.Results}}}
		l := []api.Instr{{Op: 0x20}, {Op: 0x20, A: 1}, {Op: c}, {Op: 0x0b}}
		m.Funcs = []api.Func{{Code: slices.Concat(l[:len(info.Params)], l[2:])}}
		r := made(t, m)
		for _, a := range edges {
			for _, b := range edges {
				args := []uint64{a, b}[:len(info.Params)]
				n, e := num.One(c, a)
				if len(args) == 2 {
					n, e = num.Two(c, a, b)
				}
				if e == api.OK {
					calls(t, r, 0, args, 10, []uint64{n}, 10-len(args)-2, api.OK)
				} else {
					calls(t, r, 0, args, 10, nil, 10-len(args)-1, api.ErrTrap)
				}
			}
		}
	}
	if many != 61 {
		t.Error(many)
	}
}

// TestNumbersKnown: P9.3: some of them, so that it is not num alone that tells.
func TestNumbersKnown(t *testing.T) {
	const all, high = 1<<64 - 1, 1<<32 - 1
	runAll(t, []done{
		{"ii>i", "", "local.get 0; local.get 1; i32.sub", values(3, 5), values(high - 1), 4, 0},
		{"ll>l", "", "local.get 0; local.get 1; i64.div_s", values(all-6, 2), values(all - 2), 4, 0},
		{"ll>l", "", "local.get 0; local.get 1; i64.div_u", values(all, 2), values(all / 2), 4, 0},
		{"ii>i", "", "local.get 0; local.get 1; i32.rem_s", values(high-6, 4), values(high - 2), 4, 0},
		{"ii>i", "", "local.get 0; local.get 1; i32.lt_s", values(high, 1), values(1), 4, 0},
		{"ii>i", "", "local.get 0; local.get 1; i32.lt_u", values(high, 1), values(0), 4, 0},
		{"ii>i", "", "local.get 0; local.get 1; i32.shl", values(3, 33), values(6), 4, 0},
		{"ii>i", "", "local.get 0; local.get 1; i32.div_u", values(3, 0), nil, 3, api.ErrTrap},
		{"ii>i", "", "local.get 0; local.get 1; i32.div_s", values(1<<31, high), nil, 3, api.ErrTrap},
		{"ii>i", "", "local.get 0; local.get 1; i32.rem_s", values(1<<31, high), values(0), 4, 0},
		{"ll>l", "", "local.get 0; local.get 1; i64.rem_u", values(3, 0), nil, 3, api.ErrTrap},
		{"l>i", "", "local.get 0; i32.wrap_i64", values(0x123456789), values(0x23456789), 3, 0},
		{"i>l", "", "local.get 0; i64.extend_i32_s", values(high), values(all), 3, 0},
		{"i>l", "", "local.get 0; i64.extend_i32_u", values(high), values(high), 3, 0},
		{"l>i", "", "local.get 0; i64.eqz", values(1 << 32), values(0), 3, 0},
		{"i>i", "", "local.get 0; i32.eqz", values(1 << 32), values(1), 3, 0},
		{"i>i", "", "local.get 0; i32.clz", values(1), values(31), 3, 0},
		{"l>l", "", "local.get 0; i64.ctz", values(0), values(64), 3, 0},
	})
}

// TestLoads: P9.3: what is loaded, with its sign and without, from the place that the i32 and B are together.
func TestLoads(t *testing.T) {
	const up, upper = 0xffffffff, 0xffffffff_00000000
	for text, want := range map[string]uint64{ // of 81 92 a3 b4 c5 d6 e7 f8
		"i32.load 0":     0xb4a39281,
		"i64.load 0":     0xf8e7d6c5b4a39281,
		"i32.load8_s 0":  up - 0x7e,
		"i32.load8_u 0":  0x81,
		"i32.load16_s 0": up - 0x6d7e,
		"i32.load16_u 0": 0x9281,
		"i64.load8_s 0":  upper | up - 0x7e,
		"i64.load8_u 0":  0x81,
		"i64.load16_s 0": upper | up - 0x6d7e,
		"i64.load16_u 0": 0x9281,
		"i64.load32_s 0": upper | 0xb4a39281,
		"i64.load32_u 0": 0xb4a39281,
	} {
		kind := "i>" + text[:1]
		if text[:3] == "i64" {
			kind = "i>l"
		}
		runAll(t, []done{
			{kind, "", "local.get 0; " + text, values(16), values(want), 3, 0},
			{kind, "", "local.get 0; " + text, values(1<<32 | 16), values(want), 3, 0},
			{kind, "", "local.get 0; " + text + " 16", values(0), values(want), 3, 0},
			{kind, "", "local.get 0; " + text + " 7", values(9), values(want), 3, 0},
			{kind, "", "local.get 0; " + text + " 20", values(1<<32 - 4), nil, 2, api.ErrTrap}, // it would be 16, if it wrapped
			{kind, "", "local.get 0; " + text + " 4294967295", values(17), nil, 2, api.ErrTrap},
			{kind, "", "local.get 0; " + text + " 4294967295", values(1<<32 - 1), nil, 2, api.ErrTrap},
			{kind, "", "local.get 0; " + text, values(1<<32 - 1), nil, 2, api.ErrTrap},
			{kind, "", "local.get 0; " + text, values(1 << 31), nil, 2, api.ErrTrap},
			{kind, "", "local.get 0; " + text + " 65536", values(0), nil, 2, api.ErrTrap},
		})
	}
	runAll(t, []done{ // with a sign of none
		{"i>i", "", "local.get 0; i32.load8_s", values(page - 1), values(8), 3, 0},
		{"i>i", "", "local.get 0; i32.load16_s", values(page - 2), values(0x0807), 3, 0},
		{"i>l", "", "local.get 0; i64.load8_s", values(page - 1), values(8), 3, 0},
		{"i>l", "", "local.get 0; i64.load16_s", values(page - 2), values(0x0807), 3, 0},
		{"i>l", "", "local.get 0; i64.load32_s", values(page - 4), values(0x08070605), 3, 0},
	})
}

// TestStores: P9.3: the lowest bytes of what is stored stand at the place, all else stays.
func TestStores(t *testing.T) {
	for text, want := range map[string]string{ // of f1e2d3c4b5a69788
		"i32.store":   "\x88\x97\xa6\xb5",
		"i64.store":   "\x88\x97\xa6\xb5\xc4\xd3\xe2\xf1",
		"i32.store8":  "\x88",
		"i32.store16": "\x88\x97",
		"i64.store8":  "\x88",
		"i64.store16": "\x88\x97",
		"i64.store32": "\x88\x97\xa6\xb5",
	} {
		kind := "il>"
		if text[:3] == "i32" {
			kind = "ii>"
		}
		m := with(t, world(t), kind, "", "local.get 0; local.get 1; "+text+" 0 6")
		for _, at := range []int{0, 16, 20, page - len(want), page - len(want) + 1, page, page + 1, 1 << 31, 1<<32 - 6, 1<<32 - 1} {
			r := made(t, m)
			was := whole(t, r.Memory())
			got, left, e := r.Call(6, []uint64{uint64(at - 6), 0xf1e2d3c4b5a69788}, 9)
			if at < 6 {
				at += 1 << 32
			}
			if at+len(want) > page {
				if len(got) > 0 || left != 6 || e != api.ErrTrap || whole(t, r.Memory()) != was {
					t.Errorf("%s at %d: %x, %d, %d", text, at, got, left, e)
				}
			} else if len(got) > 0 || left != 5 || e != api.OK || whole(t, r.Memory()) != was[:at]+want+was[at+len(want):] {
				t.Errorf("%s at %d: %x, %d, %d", text, at, got, left, e)
			}
		}
	}
}

// TestPlaces: P9.3: each load and store at each place about the end of the memory, with several Bs, grown and not, as the model has them.
func TestPlaces(t *testing.T) {
	many := 0
	for c := range 256 {
		info, ok := op.Of(c)
		if !ok || info.Shape != op.Memory {
			continue
		}
		many++
		kind := "i>" + map[string]string{"\x7f": "i", "\x7e": "l"}[info.Results]
		push := ""
		if info.Results == "" {
			kind = "i" + map[string]string{"\x7f": "i", "\x7e": "l"}[info.Params[1:]] + ">"
			push = "local.get 1; "
		}
		for _, offset := range []int{0, 1, 8, page, page + 5, 1<<32 - 1} {
			m := with(t, world(t), kind, "", "local.get 0; "+push+info.Name+" 0 "+strconv.Itoa(offset))
			b := newBeside(t, m)
			for range 2 {
				for at := -10; at < 10; at++ {
					for _, end := range []int{len(b.l.bytes), 1 << 32} {
						args := []uint64{uint64(end + at - offset), uint64(at) * 0x0102030405060708}
						b.call(6, args[:len(info.Params)], 9)
					}
				}
				b.r.Memory().Grow(1)
				b.l.grow(1)
			}
		}
	}
	if many != 19 {
		t.Error(many)
	}
}
