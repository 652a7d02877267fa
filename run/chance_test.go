package run_test

import (
	"math"
	"math/rand"
	"slices"
	"strings"
	"testing"

	"tuckmill/api"
	"tuckmill/op"
	"tuckmill/valid"
)

// every hands over all code of up to so many instructions of these, with what closes its blocks behind them.
func every(many int, some []api.Instr, each func(code []api.Instr)) {
	var grow func(code []api.Instr, left int, open []int)
	grow = func(code []api.Instr, left int, open []int) {
		shut := slices.Repeat([]api.Instr{{Op: 0x0b}}, len(open)+1)
		each(append(slices.Clip(code), shut...))
		if left == 0 {
			return
		}
		for _, i := range some {
			next, in := append(slices.Clip(code), i), slices.Clip(open)
			switch last := len(open) - 1; i.Op {
			case 2, 3, 4:
				in = append(in, i.Op)
			case 5:
				if last < 0 || open[last] != 4 {
					continue
				}
				in = append(in[:last:last], 5)
			case 11:
				if last < 0 {
					continue
				}
				in = in[:last]
			}
			grow(next, left-1, in)
		}
	}
	grow(nil, many, nil)
}

// TestEvery: P9.2, P9.3: all short code of instructions that stand for the others, as the model does it; with no fuel, too little, and more.
func TestEvery(t *testing.T) {
	t.Parallel()
	for many, texts := range map[int]string{
		4: "unreachable; block; block i32; loop; loop i32; if; if i32; else; end; br 0; br 1; br_if 0; br_if 1; br_table 0 1; br_table 1 0; return; drop; select; local.get 0; local.tee 1; global.set 0; call 1; i32.const 0; i32.const 7",
		5: "block i32; loop; if i32; if; else; end; br 0; br 1; local.get 0; i32.const 7; drop",
		6: "block i32; if i32; else; end; br 1; br_if 0; local.get 0; i32.const 7",
	} {
		var some []api.Instr
		for text := range strings.SplitSeq(texts, ";") {
			some = append(some, code(t, text)[0])
		}
		m := with(t, api.Module{Start: -1, Globals: []api.Global{{Type: 127, Mut: true}}}, "i>i", "i", "unreachable")
		m = with(t, m, "i>i", "", "block; local.get 0; i32.const 3; return; end; unreachable")
		all := 0
		every(many, some, func(code []api.Instr) {
			m.Funcs[0].Code = code
			if valid.Func(m, m.Funcs[0]) != api.OK {
				return
			}
			all++
			b := newBeside(t, m)
			for arg := range uint64(2) {
				for _, fuel := range []int{3, many - 1, 60} {
					b.call(0, values(arg), fuel)
				}
			}
		})
		t.Logf("up to %d: %d", many, all)
		if all < 300 {
			t.Errorf("up to %d: %d", many, all)
		}
	}
}

// maker makes modules by chance, which are mostly valid: of the types that it knows to stand in the innermost block it mostly takes what fits.
type maker struct {
	r     *rand.Rand
	m     api.Module
	f     api.Func
	plain []int // the codes of what takes and puts as op tells
}

func newMaker(seed int64) *maker {
	k := &maker{r: rand.New(rand.NewSource(seed)), m: api.Module{Start: -1}}
	for c := range 256 {
		if info, ok := op.Of(c); ok && info.Params+info.Results != "" && info.Shape != op.Const {
			k.plain = append(k.plain, c)
		}
	}
	return k
}

func (k *maker) one(l ...string) string { return l[k.r.Intn(len(l))] }

// number is one of 64 bits, mostly near an edge.
func (k *maker) number() int64 {
	switch k.r.Intn(6) {
	case 0:
		return k.r.Int63() - k.r.Int63()
	case 1:
		return []int64{math.MinInt32, math.MaxInt32, math.MinInt64, math.MaxInt64, math.MaxUint32}[k.r.Intn(5)] + int64(k.r.Intn(3)-1)
	case 2:
		return page + int64(k.r.Intn(20)-10)
	}
	return int64(k.r.Intn(12) - 3)
}

// module makes a whole one.
func (k *maker) module() api.Module {
	k.m.Memory = []api.Memory{{Min: 1, Max: []int{-1, 1, 2, 3}[k.r.Intn(4)]}}
	for range k.r.Intn(4) {
		at := k.r.Intn(page - 8)
		k.m.Data = append(k.m.Data, api.Data{Offset: []int{at, at % 30}[k.r.Intn(2)], Bytes: string(few(k.r))})
	}
	for range 1 + k.r.Intn(4) {
		g := api.Global{Type: 126 + k.r.Intn(2), Mut: k.r.Intn(4) > 0, Init: k.number()}
		if g.Type == 127 {
			g.Init = int64(int32(g.Init))
		}
		k.m.Globals = append(k.m.Globals, g)
	}
	many := 1 + k.r.Intn(4)
	for n := range many {
		k.m.Types = append(k.m.Types, api.FuncType{Params: kinds(k.one("", "i", "l", "il", "ii", "lil")), Results: kinds(k.one("", "i", "l"))})
		k.m.Funcs = append(k.m.Funcs, api.Func{Type: n, Locals: kinds(k.one("", "i", "l", "lili"))})
	}
	for n := range many {
		k.f = k.m.Funcs[n]
		result := k.m.Types[n].Results
		k.block([]string{result}, result, 4)
		k.put(0x0b, 0)
		k.m.Funcs[n] = k.f
	}
	return k.m
}

// few are some bytes.
func few(r *rand.Rand) []byte {
	b := make([]byte, r.Intn(9))
	r.Read(b)
	return b
}

func (k *maker) put(code int, a int64, labels ...int) {
	k.f.Code = append(k.f.Code, api.Instr{Op: code, A: a, Labels: labels})
}

// block makes what stands in a block, but for its end. (labels: the innermost one last.)
func (k *maker) block(labels []string, result string, deep int) {
	has := ""
	for range k.r.Intn(9) {
		var dead bool
		if has, dead = k.some(labels, has, deep); dead {
			return
		}
	}
	for has != result && has != "" {
		k.put(0x1a, 0)
		has = has[:len(has)-1]
	}
	if has != result {
		k.want(result)
	}
}

// want makes values of these types.
func (k *maker) want(types string) {
	all := k.m.Types[k.f.Type].Params + k.f.Locals
	for _, kind := range []byte(types) {
		if n := k.r.Intn(len(all) + 2); n < len(all) && all[n] == kind {
			k.put(0x20, int64(n))
		} else if kind == 127 {
			k.put(0x41, int64(int32(k.number())))
		} else {
			k.put(0x42, k.number())
		}
	}
}

// fill makes what is missing for these to stand on top, and answers what stands below them.
func (k *maker) fill(has, types string) string {
	for n := range len(types) + 1 { // the more there is already, the better
		if below, ok := strings.CutSuffix(has, types[:len(types)-n]); ok {
			k.want(types[len(types)-n:])
			return below
		}
	}
	return has
}

// some makes an instruction or more, where these stand; it answers what stands then, and whether the way is dead.
func (k *maker) some(labels []string, has string, deep int) (string, bool) {
	n := int64(k.r.Intn(len(labels)))
	kind := labels[len(labels)-1-int(n)]
	switch k.r.Intn(24) {
	case 0:
		return k.dead(labels, has, n)
	case 1, 2:
		has = k.fill(has, kind+"\x7f")
		k.put(0x0d, n)
		return has + kind, false
	case 3, 4, 5, 6, 7:
		if deep > 0 {
			return k.nest(labels, has, deep-1), false
		}
	case 8, 9:
		f := k.r.Intn(len(k.m.Funcs))
		has = k.fill(has, k.m.Types[f].Params)
		k.put(0x10, int64(f))
		return has + k.m.Types[f].Results, false
	case 10:
		one := k.one("\x7f", "\x7e")
		has = k.fill(has, one+one+"\x7f")
		k.put(0x1b, 0)
		return has + one, false
	case 11, 12, 13:
		return k.variable(has), false
	}
	c := k.plain[k.r.Intn(len(k.plain))]
	info, _ := op.Of(c)
	if info.Shape == op.Memory && k.r.Intn(5) > 0 { // mostly in the memory
		has = k.fill(has, "\x7f")
		k.put(0x41, int64([]int{31, page - 1}[k.r.Intn(2)]))
		k.put(0x71, 0) // and
		k.want(info.Params[1:])
		k.put(c, 0)
		k.f.Code[len(k.f.Code)-1].B = int64(k.r.Intn(20))
		return has + info.Results, false
	}
	has = k.fill(has, info.Params)
	k.put(c, 0)
	return has + info.Results, false
}

// dead makes something behind which nothing is done.
func (k *maker) dead(labels []string, has string, n int64) (string, bool) {
	kind := labels[len(labels)-1-int(n)]
	switch k.r.Intn(10) {
	case 0:
		k.put(0x00, 0)
	case 1, 2, 3:
		k.fill(has, kind)
		k.put(0x0c, n)
	case 4, 5, 6, 7:
		k.fill(has, kind+"\x7f")
		var same []int
		for l := range labels {
			if labels[len(labels)-1-l] == kind && k.r.Intn(2) == 0 {
				same = append(same, l)
			}
		}
		k.put(0x0e, n, same...)
	default:
		k.fill(has, labels[0])
		k.put(0x0f, 0)
	}
	return "", true
}

// nest makes a block, a loop or an if.
func (k *maker) nest(labels []string, has string, deep int) string {
	opener, result := 2+k.r.Intn(3), k.one("", "\x7f", "\x7e")
	label := result
	if opener == 3 {
		label = ""
	}
	if opener == 4 {
		has = k.fill(has, "\x7f")
	}
	inner := append(slices.Clip(labels), label)
	k.put(opener, map[string]int64{"": 64, "\x7f": 127, "\x7e": 126}[result])
	k.block(inner, result, deep)
	if opener == 4 && (result != "" || k.r.Intn(2) == 0) {
		k.put(0x05, 0)
		k.block(inner, result, deep)
	}
	k.put(0x0b, 0)
	return has + result
}

// variable makes something that is done with a local, or with a global.
func (k *maker) variable(has string) string {
	all := k.m.Types[k.f.Type].Params + k.f.Locals
	if len(all) > 0 && k.r.Intn(2) == 0 {
		n := k.r.Intn(len(all))
		c := 0x20 + k.r.Intn(3)
		if c > 0x20 {
			has = k.fill(has, all[n:n+1])
		}
		k.put(c, int64(n))
		if c != 0x21 {
			has += all[n : n+1]
		}
		return has
	}
	n := k.r.Intn(len(k.m.Globals))
	g := k.m.Globals[n]
	kind := string([]byte{byte(g.Type)})
	if g.Mut && k.r.Intn(2) == 0 {
		has = k.fill(has, kind)
		k.put(0x24, int64(n))
		return has
	}
	k.put(0x23, int64(n))
	return has + kind
}

// args are so many numbers.
func (k *maker) args(many int) []uint64 {
	var l []uint64
	for range many {
		l = append(l, uint64(k.number()))
	}
	return l
}

// TestMade: P9.2, P9.3: modules made by chance do what the model does, call behind call.
func TestMade(t *testing.T) {
	t.Parallel()
	ends := map[api.Errno]int{}
	all := 0
	for seed := range int64(3000) {
		k := newMaker(seed)
		m := k.module()
		if e := valid.Module(m); e != api.OK {
			t.Fatalf("seed %d: %d", seed, e)
		}
		b := newBeside(t, m)
		for range 6 {
			f := k.r.Intn(len(m.Funcs))
			args := k.args(len(m.Types[f].Params))
			fuel := []int{k.r.Intn(30), 200, 5000}[k.r.Intn(3)]
			_, _, e := b.call(f, args, fuel)
			ends[e]++
			all++
		}
	}
	t.Log(all, ends)
	if ends[api.OK] < all/3 || ends[api.ErrFuel] < 1000 || ends[api.ErrTrap] < 1000 || ends[api.ErrLong] < 300 {
		t.Error(all, ends)
	}
}

// TestMore: P9.4: with more fuel the same is done, and just as much more is left.
func TestMore(t *testing.T) {
	t.Parallel()
	done := 0
	for seed := range int64(1000) {
		k := newMaker(seed + 1000000)
		m := k.module()
		f := k.r.Intn(len(m.Funcs))
		args := k.args(len(m.Types[f].Params))
		less := made(t, m)
		fuel := 10 + k.r.Intn(2000)
		want, left, e := less.Call(f, args, fuel)
		if e == api.ErrFuel {
			continue
		}
		done++
		for _, by := range []int{1, 1 << 40, -left} {
			again := made(t, m)
			got, rest, err := again.Call(f, args, fuel+by)
			if !slices.Equal(got, want) || rest != left+by || err != e {
				t.Errorf("seed %d: with %d more: %x, %d, %d, not %x, %d, %d", seed, by, got, rest, err, want, left+by, e)
			}
			if !slices.Equal(globals(again), globals(less)) || whole(t, again.Memory()) != whole(t, less.Memory()) {
				t.Errorf("seed %d: with %d more something else is held", seed, by)
			}
		}
	}
	if done < 300 {
		t.Error(done)
	}
}
