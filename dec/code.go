package dec

import (
	"strings"

	"tuckmill/api"
	"tuckmill/op"
)

// Codes of instructions, two of which (constF32, constF64) have no Info.
const (
	block        = 0x02
	loop         = 0x03
	when         = 0x04 // if
	other        = 0x05 // else
	end          = 0x0b
	callIndirect = 0x11 // nor has this one
	getGlobal    = 0x23
	const32      = 0x41
	const64      = 0x42
	constF32     = 0x43
	constF64     = 0x44
)

// nothing is what a block's A is, if it has no answer.
const nothing = 0x40

// infos are those of codes that were met already: op makes one anew each time, which costs more than all else that is done to read an instruction.
type infos map[int]op.Info

// of answers the Info of a code, or an empty one.
func (l infos) of(code int) (op.Info, bool) {
	if info, ok := l[code]; ok {
		return info, true
	}
	info, ok := op.Of(code)
	if ok {
		l[code] = info
	}
	return info, ok
}

func (r *reader) instr() api.Instr {
	code := int(r.one())
	info, ok := r.infos.of(code)
	switch {
	case op.Float(code) || code == callIndirect:
		r.fail(api.ErrKind)
	case !ok:
		r.fail(api.ErrForm)
	}
	i := api.Instr{Op: code}
	switch info.Shape {
	case op.Block:
		i.A = int64(r.answer())
	case op.Label, op.Index:
		i.A = int64(r.number())
	case op.Labels:
		i.Labels = list(r, (*reader).number)
		i.A = int64(r.number())
	case op.Memory:
		i.A = int64(r.number())
		i.B = int64(r.number())
	case op.Zero:
		r.is(0)
	case op.Const:
		i.A = r.signed(code)
	}
	return i
}

// answer reads a block's A.
func (r *reader) answer() byte {
	b := r.one()
	if b == nothing {
		return b
	}
	return r.kind(b)
}

// code reads what a function has beside its Type.
func (r *reader) code() api.Func {
	var f api.Func
	r.whole(func() {
		f.Locals = r.locals()
		f.Code = r.body()
	})
	return f
}

func (r *reader) locals() string {
	left := api.MaxLocal
	return strings.Join(list(r, func(r *reader) string {
		many, kind := r.number(), r.valueType()
		if many > left {
			r.fail(api.ErrLong)
			return ""
		}
		left -= many
		return strings.Repeat(string(rune(kind)), many)
	}), "")
}

// body reads instructions, up to the end that no block, loop or if has.
func (r *reader) body() []api.Instr {
	var l []api.Instr
	open := []byte{block} // what has no end yet, the function first; an if that has its else stands as that
	for len(open) > 0 && r.e == api.OK {
		i := r.instr()
		l = append(l, i)
		open = r.nest(open, i.Op)
	}
	return l
}

// nest answers what is open behind an instruction.
func (r *reader) nest(open []byte, code int) []byte {
	last := len(open) - 1
	switch code {
	case block, loop, when:
		return append(open, byte(code))
	case other:
		if open[last] != when {
			r.fail(api.ErrForm)
		}
		open[last] = other
	case end:
		return open[:last]
	}
	return open
}
