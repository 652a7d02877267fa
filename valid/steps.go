package valid

import (
	"tuckmill/api"
	"tuckmill/op"
)

// The codes of instructions of which op does not tell what they take and put.
const (
	unreachable = 0x00
	block       = 0x02
	loop        = 0x03
	when        = 0x04 // if
	other       = 0x05 // else
	end         = 0x0b
	br          = 0x0c
	brIf        = 0x0d
	brTable     = 0x0e
	giveBack    = 0x0f // return
	call        = 0x10
	drop        = 0x1a
	choose      = 0x1b // select
	localGet    = 0x20
	localSet    = 0x21
	localTee    = 0x22
	globalGet   = 0x23
	globalSet   = 0x24
)

// known are the steps at these.
func (w *walk) known() map[int]func(i api.Instr) {
	return map[int]func(i api.Instr){
		unreachable: w.unreachable,
		block:       w.enter,
		loop:        w.enter,
		when:        w.when,
		other:       w.other,
		end:         w.end,
		br:          w.br,
		brIf:        w.brIf,
		brTable:     w.brTable,
		giveBack:    w.giveBack,
		call:        w.call,
		drop:        w.drop,
		choose:      w.choose,
		localGet:    w.localGet,
		localSet:    w.localSet,
		localTee:    w.localTee,
		globalGet:   w.globalGet,
		globalSet:   w.globalSet,
	}
}

func (w *walk) unreachable(api.Instr) { w.kill() }

func (w *walk) when(i api.Instr) {
	w.take(i32)
	w.enter(i)
}

func (w *walk) other(i api.Instr) {
	b := w.leave()
	w.open = append(w.open, frame{code: i.Op, result: b.result, height: b.height})
}

func (w *walk) end(api.Instr) {
	b := w.leave()
	w.ask(b.code != when || b.result == "") // passed over, it would leave no result
	w.put(b.result)
}

func (w *walk) br(i api.Instr) {
	w.take(w.label(i.A))
	w.kill()
}

func (w *walk) brIf(i api.Instr) {
	w.take(i32)
	kind := w.label(i.A)
	w.take(kind)
	w.put(kind)
}

func (w *walk) brTable(i api.Instr) {
	w.take(i32)
	kind := w.label(i.A)
	for _, n := range i.Labels {
		w.ask(w.label(int64(n)) == kind)
	}
	w.take(kind)
	w.kill()
}

func (w *walk) giveBack(api.Instr) {
	w.take(w.whole)
	w.kill()
}

func (w *walk) call(i api.Instr) {
	t, ok := typeOf(w.m, i.A)
	w.ask(ok)
	w.take(t.Params)
	w.put(t.Results)
}

func (w *walk) drop(api.Instr) { w.takeAny() }

func (w *walk) choose(api.Instr) {
	w.take(i32)
	a, b := w.takeAny(), w.takeAny()
	w.ask(a == b || a == unknown || b == unknown)
	w.stack = append(w.stack, max(a, b)) // unknown is the least
}

func (w *walk) localGet(i api.Instr) { w.put(w.local(i.A)) }

func (w *walk) localSet(i api.Instr) { w.take(w.local(i.A)) }

func (w *walk) localTee(i api.Instr) {
	w.localSet(i)
	w.localGet(i)
}

func (w *walk) globalGet(i api.Instr) {
	kind, _ := w.global(i.A)
	w.put(kind)
}

func (w *walk) globalSet(i api.Instr) {
	kind, mut := w.global(i.A)
	w.ask(mut)
	w.take(kind)
}

// told is an instruction as op tells of it.
type told struct {
	w    *walk
	info op.Info
}

func (t told) step(api.Instr) {
	t.w.take(t.info.Params)
	t.w.put(t.info.Results)
}

func (t told) memory(i api.Instr) {
	t.w.ask(len(t.w.m.Memory) > 0 && i.A <= power(i.Op))
	t.step(i)
}

// power is that of two of how many bytes an instruction loads or stores.
func power(code int) int64 {
	switch code {
	case 0x2e, 0x2f, 0x32, 0x33, 0x3b, 0x3d: // 16 bits
		return 1
	case 0x28, 0x34, 0x35, 0x36, 0x3e: // 32 bits
		return 2
	case 0x29, 0x37: // 64 bits
		return 3
	}
	return 0
}
