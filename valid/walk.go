package valid

import (
	"tuckmill/api"
	"tuckmill/op"
)

// The types of values, as they stand in texts of them.
const (
	i32 = string(rune(api.I32))
	i64 = string(rune(api.I64))
)

// unknown is the type of a value that is never there, as the way to it is dead.
const unknown byte = 0

// frame is a block that is open.
type frame struct {
	code   int    // what opened it; else, behind one; block, if it is the function
	result string // its type, or nothing
	height int    // how many stood on the stack when it was opened
	dead   bool
}

// walk goes through code. What is wrong stays told, so that a step need not ask behind each thing that it does.
type walk struct {
	m      api.Module
	steps  map[int]func(i api.Instr) // by codes; those that only op tells of are put in when they are met
	locals string                    // the function's, its params first
	whole  string                    // the function's results
	stack  []byte                    // never lower than the innermost block's height
	open   []frame
	wrong  bool
}

func newWalk(m api.Module) *walk {
	w := &walk{m: m}
	w.steps = w.known()
	return w
}

// through tells whether a function's code, which is Structured, can be gone through.
func (w *walk) through(f api.Func) bool {
	if !within(int64(f.Type), len(w.m.Types)) {
		return false
	}
	t := w.m.Types[f.Type]
	w.locals, w.whole = t.Params+f.Locals, t.Results
	w.stack, w.wrong = w.stack[:0], false
	w.open = append(w.open[:0], frame{code: block, result: t.Results})
	for _, i := range f.Code {
		step := w.step(i.Op)
		step(i)
		if w.wrong {
			return false
		}
	}
	return true
}

// step answers what is done at an instruction of a code. It is kept, as op makes an Info anew each time, which costs more than the step.
func (w *walk) step(code int) func(i api.Instr) {
	if step, ok := w.steps[code]; ok {
		return step
	}
	info, _ := op.Of(code)
	step := told{w, info}.step
	if info.Shape == op.Memory || info.Shape == op.Zero {
		step = told{w, info}.memory
	}
	w.steps[code] = step
	return step
}

// ask tells that the code is not valid, if it isn't so.
func (w *walk) ask(so bool) {
	if !so {
		w.wrong = true
	}
}

func (w *walk) inner() *frame { return &w.open[len(w.open)-1] }

func (w *walk) put(kinds string) { w.stack = append(w.stack, kinds...) }

// take takes types, the last one first.
func (w *walk) take(kinds string) {
	for k := len(kinds) - 1; k >= 0 && !w.endless(); k-- {
		t := w.takeAny()
		w.ask(t == kinds[k] || t == unknown)
	}
}

// takeAny takes a type, whichever it is.
func (w *walk) takeAny() byte {
	top := len(w.stack) - 1
	if top < w.inner().height {
		w.ask(w.inner().dead)
		return unknown
	}
	t := w.stack[top]
	w.stack = w.stack[:top]
	return t
}

// endless tells whether all that is taken from here on is unknown, however much it is: a dead call may take thousands, and there may be as many of these.
func (w *walk) endless() bool {
	b := w.inner()
	return b.dead && len(w.stack) == b.height
}

func (w *walk) kill() {
	b := w.inner()
	w.stack = w.stack[:b.height]
	b.dead = true
}

func (w *walk) enter(i api.Instr) {
	w.open = append(w.open, frame{code: i.Op, result: answer(i.A), height: len(w.stack)})
}

// leave takes the innermost block's result, beside which nothing of it may be left, and answers what that block was.
func (w *walk) leave() frame {
	b := *w.inner()
	w.take(b.result)
	w.ask(len(w.stack) == b.height)
	w.open = w.open[:len(w.open)-1]
	return b
}

// label answers the type of a label: a br to a loop goes to where it begins, to which no value is taken along.
func (w *walk) label(n int64) string {
	if !within(n, len(w.open)) {
		w.wrong = true
		return ""
	}
	b := w.open[len(w.open)-1-int(n)]
	if b.code == loop {
		return ""
	}
	return b.result
}

// local answers the type of a local.
func (w *walk) local(n int64) string {
	if !within(n, len(w.locals)) {
		w.wrong = true
		return ""
	}
	return w.locals[n : n+1]
}

// global answers the type of a global, and whether it may be set.
func (w *walk) global(n int64) (kind string, mut bool) {
	if !within(n, len(w.m.Globals)) {
		w.wrong = true
		return "", false
	}
	g := w.m.Globals[n]
	return answer(int64(g.Type)), g.Mut
}

// answer is the type that a number tells, or nothing.
func answer(n int64) string {
	switch n {
	case api.I32:
		return i32
	case api.I64:
		return i64
	}
	return ""
}
