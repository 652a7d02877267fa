package dec

import (
	"strings"

	"tuckmill/api"
	"tuckmill/leb"
)

// Bytes that stand ahead of things.
const (
	funcType  = 0x60
	noMax     = 0 // a memory's Min alone follows
	withMax   = 1
	fixed     = 0 // a global that may not be set
	settable  = 1
	theMemory = 0 // the one that data are for
)

// The value types that are not carried here.
const (
	typeF32 = 0x7d
	typeF64 = 0x7c
)

// The kinds of exports.
const (
	exportFunc   = 0
	exportTable  = 1
	exportMemory = 2
	exportGlobal = 3
)

func (r *reader) valueType() byte { return r.kind(r.one()) }

// kind answers a byte that has to be a value type.
func (r *reader) kind(b byte) byte {
	switch b {
	case api.I32, api.I64:
	case typeF32, typeF64:
		r.fail(api.ErrKind)
	default:
		r.fail(api.ErrForm)
	}
	return b
}

func (r *reader) funcType() api.FuncType {
	r.is(funcType)
	t := api.FuncType{Params: r.kinds(), Results: r.kinds()}
	if len(t.Results) > 1 {
		r.fail(api.ErrKind)
	}
	return t
}

func (r *reader) kinds() string { return string(list(r, (*reader).valueType)) }

func (r *reader) memory() api.Memory {
	switch r.one() {
	case noMax:
		return api.Memory{Min: r.number(), Max: -1}
	case withMax:
		return api.Memory{Min: r.number(), Max: r.number()}
	}
	r.fail(api.ErrForm)
	return api.Memory{}
}

func (r *reader) global() api.Global {
	kind, set := r.valueType(), r.one()
	if set != fixed && set != settable {
		r.fail(api.ErrForm)
	}
	return api.Global{Type: int(kind), Mut: set == settable, Init: r.constant(kind)}
}

// constant reads a const of a type.
func (r *reader) constant(kind byte) int64 {
	code := int(r.one())
	switch code {
	case const32, const64:
	case getGlobal, constF32, constF64:
		r.fail(api.ErrKind)
	default:
		r.fail(api.ErrForm)
	}
	n := r.signed(code)
	if (code == const32) != (kind == api.I32) {
		r.fail(api.ErrType)
	}
	r.is(end)
	return n
}

// signed reads the number of an i32.const, or of an i64.const.
func (r *reader) signed(code int) int64 {
	if code == const32 {
		return int64(taken(r, leb.S32))
	}
	return taken(r, leb.S64)
}

func (r *reader) export() api.Export {
	name, kind := strings.Clone(r.name()), r.one()
	switch kind {
	case exportFunc, exportMemory, exportGlobal:
	case exportTable:
		r.fail(api.ErrKind)
	default:
		r.fail(api.ErrForm)
	}
	return api.Export{Name: name, Kind: int(kind), Index: r.number()}
}

func (r *reader) data() api.Data {
	if r.number() != theMemory {
		r.fail(api.ErrKind)
	}
	return api.Data{Offset: int(r.constant(api.I32)), Bytes: strings.Clone(r.text())}
}
