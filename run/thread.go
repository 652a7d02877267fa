package run

import "tuckmill/api"

// maxCalls is how many calls may be in one another, what Call itself calls among them.
const maxCalls = 256

// whole stands for the place of what opens a function: no instruction does.
const whole = -1

// thread is what is done by one Call.
type thread struct {
	*Machine
	fuel   int
	stack  []uint64 // the values of all calls, and so the locals and the blocks that are open
	locals []uint64
	open   []opened
	calls  []frame
}

// frame is a call of a function.
type frame struct {
	f            int
	code         []api.Instr
	next         int // the place of what is done next
	locals, open int // where its own begin
}

// opened is a block that has begun.
type opened struct {
	at     int // of what opened it
	height int // how many values stood on the stack
}

// run goes on until the first call has returned.
func (t *thread) run() api.Errno {
	for len(t.calls) > 0 {
		if t.fuel == 0 {
			return api.ErrFuel
		}
		t.fuel--
		c := t.inner()
		i := &c.code[c.next]
		c.next++
		if e := t.step(i); e != api.OK {
			return e
		}
	}
	return api.OK
}

// inner is the innermost call. (It is asked for anew where there may be another one: those in one another may have been moved.)
func (t *thread) inner() *frame { return &t.calls[len(t.calls)-1] }

// begin begins a call; its args become locals.
func (t *thread) begin(f int, args []uint64) {
	c := frame{f: f, code: t.m.Funcs[f].Code, locals: len(t.locals), open: len(t.open)}
	params := t.typeOf(f).Params
	for k, a := range args {
		t.locals = append(t.locals, value(int(params[k]), a))
	}
	t.locals = append(t.locals, make([]uint64, len(t.m.Funcs[f].Locals))...)
	t.calls = append(t.calls, c)
	t.enter(whole)
}

// back ends the innermost call; its results stay.
func (t *thread) back() {
	c := t.inner()
	t.keep(len(t.typeOf(c.f).Results), t.open[c.open].height)
	t.locals = t.locals[:c.locals]
	t.open = t.open[:c.open]
	t.calls = t.calls[:len(t.calls)-1]
}

// enter opens a block, which begins at a place.
func (t *thread) enter(at int) { t.open = append(t.open, opened{at, len(t.stack)}) }

// leave closes the innermost block, the code of which has been gone through.
func (t *thread) leave() {
	if len(t.open)-1 == t.inner().open {
		t.back()
		return
	}
	t.open = t.open[:len(t.open)-1]
}

// branch goes to a label: 0 is the innermost block's.
func (t *thread) branch(n int64) {
	c := t.inner()
	to := len(t.open) - 1 - int(n)
	if to == c.open {
		t.back()
		return
	}
	b := t.open[to]
	i := &c.code[b.at]
	if i.Op == loop {
		t.keep(0, b.height)
		t.open = t.open[:to+1]
		c.next = b.at + 1
		return
	}
	t.keep(results(i), b.height)
	t.open = t.open[:to]
	c.next = t.ends[place{c.f, b.at}].end + 1
}

// results is how many values a block has in the end.
func results(i *api.Instr) int {
	if i.A == nothing {
		return 0
	}
	return 1
}

// put puts a value on the stack, if there is room.
func (t *thread) put(n uint64) api.Errno {
	if len(t.stack) == api.MaxStack {
		return api.ErrLong
	}
	t.stack = append(t.stack, n)
	return api.OK
}

// take takes the value that stands on top.
func (t *thread) take() uint64 {
	top := len(t.stack) - 1
	n := t.stack[top]
	t.stack = t.stack[:top]
	return n
}

// keep cuts the stack to a height, but for so many values on top, which stay.
func (t *thread) keep(n, height int) {
	copy(t.stack[height:], t.stack[len(t.stack)-n:])
	t.stack = t.stack[:height+n]
}
