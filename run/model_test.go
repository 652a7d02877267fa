package run_test

import (
	"encoding/binary"
	"slices"
	"strings"
	"testing"

	"tuckmill/api"
	"tuckmill/num"
	"tuckmill/op"
	"tuckmill/run"
)

// node is an instruction with what stands in it.
type node struct {
	i           api.Instr
	body, other []node
	split       bool // has it an else
}

// grown makes a tree of code, up to an end or an else; it answers that, and what stands behind it.
func grown(code []api.Instr) (l []node, stop int, rest []api.Instr) {
	for {
		n := node{i: code[0]}
		code = code[1:]
		switch n.i.Op {
		case 0x05, 0x0b:
			return l, n.i.Op, code
		case 0x02, 0x03, 0x04:
			n.body, stop, code = grown(code)
			if stop == 0x05 {
				n.split = true
				n.other, _, code = grown(code)
			}
		}
		l = append(l, n)
	}
}

// model is a second machine, which goes through a tree by calls in one another: each block has a stack of its own, and a br is handed out from block to block. Errors are panics.
type model struct {
	m       api.Module
	trees   [][]node
	bytes   []byte
	globals []uint64
	fuel    int
	count   int // how many values there are on all stacks
	deep    int // how many calls there are in one another
}

func cut(kind int, n uint64) uint64 {
	if kind == 127 {
		return n & 0xffffffff
	}
	return n
}

func newModel(m api.Module) *model {
	l := &model{m: m}
	for _, f := range m.Funcs {
		tree, _, _ := grown(f.Code)
		l.trees = append(l.trees, tree)
	}
	if len(m.Memory) > 0 {
		l.bytes = make([]byte, m.Memory[0].Min*page)
	}
	for _, d := range m.Data {
		copy(l.bytes[d.Offset:], d.Bytes)
	}
	for _, g := range m.Globals {
		l.globals = append(l.globals, cut(g.Type, uint64(g.Init)))
	}
	return l
}

// call is what Call answers, where there is such a function with such args.
func (l *model) call(f int, args []uint64, fuel int) (results []uint64, left int, e api.Errno) {
	l.fuel, l.count, l.deep = fuel, 0, 0
	defer func() {
		if r := recover(); r != nil {
			results, left, e = nil, l.fuel, r.(api.Errno)
		}
	}()
	return l.function(f, args), l.fuel, api.OK
}

// tick takes one of the fuel.
func (l *model) tick() {
	if l.fuel == 0 {
		panic(api.ErrFuel)
	}
	l.fuel--
}

// visit is a function that is being done.
type visit struct {
	*model
	locals []uint64
}

func (l *model) function(f int, args []uint64) []uint64 {
	if l.deep++; l.deep > 256 {
		panic(api.ErrLong)
	}
	kind := l.m.Types[l.m.Funcs[f].Type]
	v := &visit{l, nil}
	for k, a := range args {
		v.locals = append(v.locals, cut(int(kind.Params[k]), a))
	}
	for range l.m.Funcs[f].Locals {
		v.locals = append(v.locals, 0)
	}
	p := &pile{l: l}
	out, carried := v.list(l.trees[f], p, []int{len(kind.Results)})
	if out < 0 {
		l.tick() // its end
		carried = p.take(len(kind.Results))
	}
	if len(p.has) > 0 {
		panic("more is left than the results")
	}
	l.deep--
	return carried
}

// pile is a block's stack.
type pile struct {
	l   *model
	has []uint64
}

func (p *pile) put(l ...uint64) {
	p.l.count += len(l)
	if p.l.count > 4096 {
		panic(api.ErrLong)
	}
	p.has = append(p.has, l...)
}

func (p *pile) take(n int) []uint64 {
	at := len(p.has) - n
	l := slices.Clone(p.has[at:])
	p.has = p.has[:at]
	p.l.count -= n
	return l
}

// list does one after another; out is how many blocks are to be left by a br, with what is carried to there; below 0, if there is none. (labels: how many values are carried to each, the innermost last.)
func (v *visit) list(l []node, p *pile, labels []int) (out int, carried []uint64) {
	for _, n := range l {
		v.tick()
		switch n.i.Op {
		case 0x02, 0x03, 0x04:
			out, carried = v.block(n, p, labels)
		default:
			out = v.flow(n.i, p)
			if out >= 0 {
				out = min(out, len(labels)-1)
				carried = p.take(labels[len(labels)-1-out])
			}
		}
		if out >= 0 {
			p.take(len(p.has))
			return out, carried
		}
	}
	return -1, nil
}

// flow does what opens no block; it answers the label of a br, or -1. (That of a return is greater than any.)
func (v *visit) flow(i api.Instr, p *pile) int {
	switch i.Op {
	case 0x00:
		panic(api.ErrTrap)
	case 0x0c:
		return int(i.A)
	case 0x0d:
		if p.take(1)[0] != 0 {
			return int(i.A)
		}
	case 0x0e:
		l := append(slices.Clone(i.Labels), int(i.A))
		return l[min(p.take(1)[0], uint64(len(i.Labels)))]
	case 0x0f:
		return 1 << 32
	case 0x10:
		kind := v.m.Types[v.m.Funcs[i.A].Type]
		p.put(v.function(int(i.A), p.take(len(kind.Params)))...)
	default:
		v.plain(i, p)
	}
	return -1
}

func (v *visit) block(n node, p *pile, labels []int) (out int, carried []uint64) {
	body, label := n.body, 1
	if n.i.A == 64 || n.i.Op == 0x03 {
		label = 0
	}
	turned := n.i.Op == 0x04 && p.take(1)[0] == 0
	if turned && !n.split {
		return -1, nil
	}
	if turned {
		body = n.other
	}
	for {
		inner := &pile{l: v.model}
		out, carried = v.list(body, inner, append(slices.Clip(labels), label))
		if out < 0 {
			if n.split && !turned {
				v.tick() // its else
			}
			v.tick() // its end
			carried = inner.take(len(inner.has))
		}
		if out == 0 && n.i.Op == 0x03 {
			continue
		}
		if out > 0 {
			return out - 1, carried
		}
		p.put(carried...)
		return -1, nil
	}
}

func (v *visit) plain(i api.Instr, p *pile) {
	info, _ := op.Of(i.Op)
	switch info.Name {
	case "nop":
	case "drop":
		p.take(1)
	case "select":
		if l := p.take(3); l[2] != 0 {
			p.put(l[0])
		} else {
			p.put(l[1])
		}
	case "local.get":
		p.put(v.locals[i.A])
	case "local.set":
		v.locals[i.A] = p.take(1)[0]
	case "local.tee":
		v.locals[i.A] = p.take(1)[0]
		p.put(v.locals[i.A])
	case "global.get":
		p.put(v.globals[i.A])
	case "global.set":
		v.globals[i.A] = p.take(1)[0]
	case "i32.const", "i64.const":
		p.put(cut(int(info.Results[0]), uint64(i.A)))
	case "memory.size":
		p.put(uint64(len(v.bytes) / page))
	case "memory.grow":
		p.put(v.grow(p.take(1)[0]))
	default:
		if info.Shape == op.Memory {
			v.memory(i, info, p)
		} else {
			p.put(reckoned(i.Op, p.take(len(info.Params))))
		}
	}
}

func reckoned(code int, l []uint64) uint64 {
	var n uint64
	var e api.Errno
	if len(l) == 1 {
		n, e = num.One(code, l[0])
	} else {
		n, e = num.Two(code, l[0], l[1])
	}
	if e != api.OK {
		panic(e)
	}
	return n
}

func (l *model) grow(n uint64) uint64 {
	before := uint64(len(l.bytes)) / page
	if most := l.m.Memory[0].Max; before+n > 256 || most >= 0 && before+n > uint64(most) {
		return 0xffffffff
	}
	l.bytes = append(l.bytes, make([]byte, n*page)...)
	return before
}

// bytesOf is how many bytes an instruction loads or stores, as its name tells.
func bytesOf(name string) int {
	kind, what, _ := strings.Cut(name, ".")
	for bits, n := range map[string]int{"8": 1, "16": 2, "32": 4} {
		if strings.Contains(what, bits) {
			return n
		}
	}
	return map[string]int{"i32": 4, "i64": 8}[kind]
}

func (v *visit) memory(i api.Instr, info op.Info, p *pile) {
	size := bytesOf(info.Name)
	l := p.take(len(info.Params))
	at := l[0] + uint64(i.B)
	if at+uint64(size) > uint64(len(v.bytes)) {
		panic(api.ErrTrap)
	}
	part := v.bytes[at : at+uint64(size)]
	var eight [8]byte
	if len(l) == 2 {
		binary.LittleEndian.PutUint64(eight[:], l[1])
		copy(part, eight[:])
		return
	}
	copy(eight[:], part)
	if strings.HasSuffix(info.Name, "_s") && part[size-1] > 127 {
		for k := size; k < 8; k++ {
			eight[k] = 0xff
		}
	}
	p.put(cut(int(info.Results[0]), binary.LittleEndian.Uint64(eight[:])))
}

// beside are a machine and a model of one module, of which the same is asked.
type beside struct {
	t testing.TB
	m api.Module
	r *run.Machine
	l *model
}

func newBeside(t testing.TB, m api.Module) *beside {
	t.Helper()
	return &beside{t, m, made(t, m), newModel(m)}
}

// call fails, if the two do not answer the same, or do not hold the same behind it; it tells what they answer.
func (b *beside) call(f int, args []uint64, fuel int) ([]uint64, int, api.Errno) {
	b.t.Helper()
	want, left, e := b.l.call(f, args, fuel)
	got, rest, err := b.r.Call(f, args, fuel)
	if !slices.Equal(got, want) || rest != left || err != e {
		b.t.Errorf("Call(%d, %x, %d): %x, %d, %d, not %x, %d, %d\n%s", f, args, fuel, got, rest, err, want, left, e, b.told())
	}
	if g := globals(b.r); !slices.Equal(g, b.l.globals) {
		b.t.Errorf("behind Call(%d, %x, %d) the globals are %x, not %x\n%s", f, args, fuel, g, b.l.globals, b.told())
	}
	if s := whole(b.t, b.r.Memory()); s != string(b.l.bytes) {
		b.t.Errorf("behind Call(%d, %x, %d) the memory is another one (%d bytes, not %d)\n%s", f, args, fuel, len(s), len(b.l.bytes), b.told())
	}
	return want, left, e
}

func (b *beside) told() string {
	var l []string
	for _, f := range b.m.Funcs {
		l = append(l, told(f.Code))
	}
	return strings.Join(l, "\n")
}
