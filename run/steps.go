package run

import (
	"tuckmill/api"
	"tuckmill/num"
)

// nothing is what a block's A is, if it has no result.
const nothing = 64

// The codes of instructions that neither load, nor store, nor reckon.
const (
	unreachable = 0x00
	nop         = 0x01
	block       = 0x02
	loop        = 0x03
	when        = 0x04 // if
	other       = 0x05 // else
	end         = 0x0b
	br          = 0x0c
	brIf        = 0x0d
	brTable     = 0x0e
	giveBack    = 0x0f // return
	call        = 0x10
	drop        = 0x1a
	choose      = 0x1b // select
	localGet    = 0x20
	localSet    = 0x21
	localTee    = 0x22
	globalGet   = 0x23
	globalSet   = 0x24
	memorySize  = 0x3f
	memoryGrow  = 0x40
	const32     = 0x41
	const64     = 0x42
)

// The first and the last code of those that load, and of those that store.
const (
	firstLoad, lastLoad   = 0x28, 0x35
	firstStore, lastStore = 0x36, 0x3e
)

// step does an instruction: those that lead through the code stand here.
func (t *thread) step(i *api.Instr) api.Errno {
	switch i.Op {
	case unreachable:
		return api.ErrTrap
	case nop:
	case block, loop:
		t.enter(t.inner().next - 1)
	case when:
		t.when()
	case other:
		c := t.inner()
		c.next = t.ends[place{c.f, t.open[len(t.open)-1].at}].end
	case end:
		t.leave()
	case br:
		t.branch(i.A)
	case brIf:
		if t.take() != 0 {
			t.branch(i.A)
		}
	case brTable:
		t.branch(chosen(i, t.take()))
	case giveBack:
		t.back()
	case call:
		return t.call(int(i.A))
	default:
		return t.reckon(i)
	}
	return api.OK
}

// reckon does what is done with values alone.
func (t *thread) reckon(i *api.Instr) api.Errno {
	switch i.Op {
	case drop:
		t.take()
	case choose:
		t.choose()
	case localGet:
		return t.put(*t.local(i))
	case localSet:
		*t.local(i) = t.take()
	case localTee:
		*t.local(i) = t.stack[len(t.stack)-1]
	case globalGet:
		return t.put(t.globals[i.A])
	case globalSet:
		t.globals[i.A] = t.take()
	case memorySize:
		return t.put(uint64(t.memory.Pages()))
	case memoryGrow:
		return t.put(uint64(uint32(t.memory.Grow(uint32(t.take())))))
	case const32:
		return t.put(uint64(uint32(i.A)))
	case const64:
		return t.put(uint64(i.A))
	default:
		return t.number(i)
	}
	return api.OK
}

// number loads, or stores, or reckons a number.
func (t *thread) number(i *api.Instr) api.Errno {
	switch {
	case firstLoad <= i.Op && i.Op <= lastLoad:
		return t.load(i)
	case firstStore <= i.Op && i.Op <= lastStore:
		return t.store(i)
	case ofOne(i.Op):
		n, e := num.One(i.Op, t.take())
		if e != api.OK {
			return e
		}
		return t.put(n)
	}
	b := t.take()
	n, e := num.Two(i.Op, t.take(), b)
	if e != api.OK {
		return e
	}
	return t.put(n)
}

// when opens an if, or passes over it, if it has no else.
func (t *thread) when() {
	c := t.inner()
	at := c.next - 1
	if t.take() != 0 {
		t.enter(at)
		return
	}
	to := t.ends[place{c.f, at}]
	c.next = to.otherwise
	if c.next <= to.end {
		t.enter(at)
	}
}

// chosen answers the label of a br_table that a value asks for.
func chosen(i *api.Instr, n uint64) int64 {
	if n < uint64(len(i.Labels)) {
		return int64(i.Labels[n])
	}
	return i.A
}

// call calls a function with what stands on top.
func (t *thread) call(f int) api.Errno {
	if len(t.calls) == maxCalls {
		return api.ErrLong
	}
	height := len(t.stack) - len(t.typeOf(f).Params)
	args := t.stack[height:]
	t.stack = t.stack[:height]
	t.begin(f, args)
	return api.OK
}

// choose leaves one of two values.
func (t *thread) choose() {
	first := t.take() != 0
	b := t.take()
	if !first {
		t.stack[len(t.stack)-1] = b
	}
}

// local is the one that an instruction names.
func (t *thread) local(i *api.Instr) *uint64 { return &t.locals[t.inner().locals+int(i.A)] }

// at answers the place in memory that an instruction names: the sum of two numbers of 32 bits does not wrap.
func (t *thread) at(i *api.Instr) uint64 { return t.take() + uint64(i.B) }

func (t *thread) load(i *api.Instr) api.Errno {
	n, ok := t.memory.Load(t.at(i), size(i.Op))
	if !ok {
		return api.ErrTrap
	}
	return t.put(extended(i.Op, n))
}

func (t *thread) store(i *api.Instr) api.Errno {
	n := t.take()
	if !t.memory.Store(t.at(i), size(i.Op), n) {
		return api.ErrTrap
	}
	return api.OK
}

// size is how many bytes an instruction loads or stores.
func size(code int) int {
	switch code {
	case 0x2c, 0x2d, 0x30, 0x31, 0x3a, 0x3c: // load8, store8
		return 1
	case 0x2e, 0x2f, 0x32, 0x33, 0x3b, 0x3d: // load16, store16
		return 2
	case 0x28, 0x34, 0x35, 0x36, 0x3e: // those of i32, load32, store32
		return 4
	}
	return 8
}

// extended answers what has been loaded, with its sign, if the instruction asks for it.
func extended(code int, n uint64) uint64 {
	switch code {
	case 0x2c: // i32.load8_s
		return uint64(uint32(int8(n)))
	case 0x2e: // i32.load16_s
		return uint64(uint32(int16(n)))
	case 0x30: // i64.load8_s
		return uint64(int8(n))
	case 0x32: // i64.load16_s
		return uint64(int16(n))
	case 0x34: // i64.load32_s
		return uint64(int32(n))
	}
	return n
}

// ofOne tells whether an instruction reckons with one number.
func ofOne(code int) bool {
	switch code {
	case 0x45, 0x50, 0x67, 0x68, 0x69, 0x79, 0x7a, 0x7b, 0xa7, 0xac, 0xad:
		return true
	}
	return false
}
