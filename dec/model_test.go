package dec_test

import (
	"math/rand"
	"slices"
	"strings"
	"testing"

	"tuckmill/api"
	"tuckmill/dec"
	"tuckmill/enc"
	"tuckmill/leb"
	"tuckmill/module"
	"tuckmill/op"
)

// model takes a text away from its front, word by word as chapter 6 says it; what is wrong is a panic.
type model struct{ s string }

func (l *model) bytes(n int) string {
	if n > len(l.s) {
		panic(api.ErrForm)
	}
	was := l.s[:n]
	l.s = l.s[n:]
	return was
}

// one takes a byte: it is to be one of these, or there is an error, which hangs on whether it is one of others.
func (l *model) one(these, others string) int {
	b := l.bytes(1)
	if strings.Contains(others, b) {
		panic(api.ErrKind)
	}
	if !strings.Contains(these, b) {
		panic(api.ErrForm)
	}
	return int(b[0])
}

func (l *model) number() int {
	n, next, e := leb.U32(l.s, 0)
	if e != api.OK {
		panic(e)
	}
	l.bytes(next)
	return int(n)
}

func (l *model) signed(code int) int64 {
	n, next, e := leb.S64(l.s, 0)
	if code == 65 {
		short, behind, wrong := leb.S32(l.s, 0)
		n, next, e = int64(short), behind, wrong
	}
	if e != api.OK {
		panic(e)
	}
	l.bytes(next)
	return n
}

func (l *model) times(each func()) {
	many := l.number()
	if many > 4096 {
		panic(api.ErrLong)
	}
	for range many {
		each()
	}
}

// inside hands over what stands in a text, of which nothing may be left.
func (l *model) inside(read func(in *model)) {
	in := &model{l.bytes(l.number())}
	read(in)
	if in.s != "" {
		panic(api.ErrForm)
	}
}

func (l *model) name() string {
	s := l.bytes(l.number())
	if !module.Name(s) {
		panic(api.ErrForm)
	}
	return s
}

func (l *model) kinds() string {
	s := ""
	l.times(func() { s += string(rune(l.one("\x7f\x7e", "\x7d\x7c"))) })
	return s
}

func (l *model) constant(kind int) int64 {
	code := l.one("\x41\x42", "\x23\x43\x44")
	n := l.signed(code)
	if code+kind != 65+127 { // which is 66 and 126, too
		panic(api.ErrType)
	}
	l.one("\x0b", "")
	return n
}

func (l *model) instr() api.Instr {
	code := int(l.bytes(1)[0])
	if code == 17 || op.Float(code) {
		panic(api.ErrKind)
	}
	info, ok := op.Of(code)
	if !ok {
		panic(api.ErrForm)
	}
	i := api.Instr{Op: code}
	switch info.Shape {
	case op.Block:
		i.A = int64(l.one("\x40\x7f\x7e", "\x7d\x7c"))
	case op.Labels:
		l.times(func() { i.Labels = append(i.Labels, l.number()) })
		i.A = int64(l.number())
	case op.Label, op.Index:
		i.A = int64(l.number())
	case op.Memory:
		i.A = int64(l.number())
		i.B = int64(l.number())
	case op.Zero:
		l.one("\x00", "")
	case op.Const:
		i.A = l.signed(code)
	}
	return i
}

// body takes instructions up to an end, or to an else where one may stand.
func (l *model) body(mayElse bool) []api.Instr {
	var code []api.Instr
	for {
		i := l.instr()
		code = append(code, i)
		switch i.Op {
		case 2, 3, 4:
			code = append(code, l.body(i.Op == 4)...)
		case 5:
			if !mayElse {
				panic(api.ErrForm)
			}
			return append(code, l.body(false)...)
		case 11:
			return code
		}
	}
}

func (l *model) code() api.Func {
	var f api.Func
	l.inside(func(in *model) {
		in.times(func() {
			many := in.number()
			kind := in.one("\x7f\x7e", "\x7d\x7c")
			if len(f.Locals)+many > 4096 {
				panic(api.ErrLong)
			}
			f.Locals += strings.Repeat(string(rune(kind)), many)
		})
		f.Code = in.body(false)
	})
	return f
}

func (l *model) section(n int, m *api.Module, codes *[]api.Func) {
	switch n {
	case 0:
		l.name()
		l.s = ""
	case 1:
		l.times(func() {
			l.one("\x60", "")
			t := api.FuncType{Params: l.kinds(), Results: l.kinds()}
			if len(t.Results) > 1 {
				panic(api.ErrKind)
			}
			m.Types = append(m.Types, t)
		})
	case 3:
		l.times(func() { m.Funcs = append(m.Funcs, api.Func{Type: l.number()}) })
	case 5:
		l.times(func() {
			p := api.Memory{Max: -1}
			told := l.one("\x00\x01", "")
			p.Min = l.number()
			if told == 1 {
				p.Max = l.number()
			}
			m.Memory = append(m.Memory, p)
		})
	case 6:
		l.times(func() {
			kind, set := l.one("\x7f\x7e", "\x7d\x7c"), l.one("\x00\x01", "")
			m.Globals = append(m.Globals, api.Global{Type: kind, Mut: set == 1, Init: l.constant(kind)})
		})
	case 7:
		l.times(func() {
			m.Exports = append(m.Exports, api.Export{Name: l.name(), Kind: l.one("\x00\x02\x03", "\x01"), Index: l.number()})
		})
	case 8:
		m.Start = l.number()
	case 10:
		l.times(func() { *codes = append(*codes, l.code()) })
	case 11:
		l.times(func() {
			if l.number() != 0 {
				panic(api.ErrKind)
			}
			m.Data = append(m.Data, api.Data{Offset: int(l.constant(127)), Bytes: l.bytes(l.number())})
		})
	}
}

// told makes an error of a panic with one.
func told(read func()) (e api.Errno) {
	defer func() {
		if wrong := recover(); wrong != nil {
			e = wrong.(api.Errno)
		}
	}()
	read()
	return api.OK
}

func modelModule(s string) (api.Module, api.Errno) {
	m := api.Module{Start: -1}
	e := told(func() {
		l := &model{s}
		if len(s) > 1<<20 {
			panic(api.ErrLong)
		}
		if len(s) < 8 || l.bytes(8) != "\x00asm\x01\x00\x00\x00" {
			panic(api.ErrForm)
		}
		var codes []api.Func
		next := 1
		for l.s != "" {
			n := l.one("\x00\x01\x03\x05\x06\x07\x08\x0a\x0b", "\x02\x04\x09")
			if n != 0 && n < next {
				panic(api.ErrForm)
			}
			if n != 0 {
				next = n + 1
			}
			l.inside(func(in *model) { in.section(n, &m, &codes) })
		}
		if len(codes) != len(m.Funcs) {
			panic(api.ErrForm)
		}
		for k, f := range codes {
			f.Type = m.Funcs[k].Type
			m.Funcs[k] = f
		}
	})
	if e != api.OK {
		return api.Module{}, e
	}
	return m, e
}

// like holds what is read against the model, and tells with which error.
func like(t *testing.T, s string) api.Errno {
	t.Helper()
	want, e := modelModule(s)
	if m, got := dec.Module(s); got != e || !module.Same(m, want) || e != api.OK && !zero(m) {
		t.Fatalf("Module(%x): %+v %d, not %+v %d", s, m, got, want, e)
	}
	return e
}

// TestInstrModel: P6.1: each two bytes, and behind each byte one that may begin an instruction, with some behind them.
func TestInstrModel(t *testing.T) {
	check := func(s string, at int) {
		var want api.Instr
		l, next := &model{s[at:]}, 0
		e := told(func() { want = l.instr() })
		if next = len(s) - len(l.s); e != api.OK {
			want, next = api.Instr{}, 0
		}
		if i, behind, got := dec.Instr(s, at); !same(i, want) || behind != next || got != e {
			t.Errorf("Instr(%x, %d): %+v %d %d, not %+v %d %d", s, at, i, behind, got, want, next, e)
		}
	}
	for k := range 1 << 16 {
		s := string([]byte{byte(k), byte(k >> 8)})
		for at := range 3 {
			check(s, at)
		}
		for _, tail := range []string{"\x00", "\x7f\x01", "\x80\x80\x01\x0b", "\xff\xff\xff\xff\xff\xff\xff\xff\xff\x00", "\x80\x80\x80\x08"} {
			check(s+tail, 0)
		}
	}
}

// TestModuleBytes: P6.2: a module with each byte of it changed to any other one, with any one taken out, or put in.
func TestModuleBytes(t *testing.T) {
	seen := map[api.Errno]int{}
	m := whole()
	m.Globals = append(m.Globals, api.Global{Type: 126, Init: -64})
	m.Funcs[1].Code = []api.Instr{{Op: 4, A: 64}, {Op: 5}, {Op: 11}, {Op: 14, A: 1, Labels: []int{2, 3}}, {Op: 66, A: 5}, {Op: 11}}
	s, e := enc.Module(m)
	if e != api.OK {
		t.Fatal(e)
	}
	for k := range len(s) {
		seen[like(t, s[:k])]++
		seen[like(t, s[:k]+s[k+1:])]++
		for b := range 256 {
			seen[like(t, s[:k]+string([]byte{byte(b)})+s[k+1:])]++
			seen[like(t, s[:k]+string([]byte{byte(b)})+s[k:])]++
		}
	}
	if seen[api.OK] < 500 || seen[api.ErrForm] < 5000 || seen[api.ErrKind] < 500 || seen[api.ErrType] < 3 || seen[api.ErrLong] < 100 {
		t.Error(seen)
	}
}

// maker makes modules, and bytes in which they may stand, which need not be those that they would be written as. (Its chances are always the same ones.)
type maker struct {
	*rand.Rand
	out   []byte
	plain []int // the codes of instructions that nest nothing
}

func newMaker(k int) *maker {
	w := &maker{Rand: rand.New(rand.NewSource(int64(k)))}
	for code := range 256 {
		if _, ok := op.Of(code); ok && !slices.Contains([]int{2, 3, 4, 5, 11}, code) {
			w.plain = append(w.plain, code)
		}
	}
	return w
}

func (w *maker) put(s string) { w.out = append(w.out, s...) }

// long puts a number that may be longer than it has to be, but in at most so many bytes.
func (w *maker) long(s string, most int, fill byte) {
	l := []byte(s)
	for len(l) < most && w.Intn(8) == 0 {
		l[len(l)-1] |= 128
		l = append(l, fill)
	}
	w.out = append(w.out, l...)
}

func (w *maker) number(n int) int {
	w.long(leb.PutU(uint64(n)), 5, 0)
	return n
}

// word is any number, as often as not a small one.
func (w *maker) word() int {
	n := int(w.Uint32() >> w.Intn(32))
	if w.Intn(2) == 0 {
		n &= 7
	}
	return w.number(n)
}

// signed is any number of so many bits.
func (w *maker) signed(bits int) int64 {
	n, fill := int64(w.Uint64())>>(64-bits)>>w.Intn(bits), byte(0)
	if n < 0 {
		fill = 127
	}
	w.long(leb.PutS(n), (bits+6)/7, fill)
	return n
}

// choice is a byte out of some.
func (w *maker) choice(of string) int {
	b := of[w.Intn(len(of))]
	w.out = append(w.out, b)
	return int(b)
}

// text is some bytes of these.
func (w *maker) text(most int, of ...string) string {
	s := ""
	for range w.Intn(most + 1) {
		s += of[w.Intn(len(of))]
	}
	w.number(len(s))
	w.put(s)
	return s
}

// several are some things.
func several[T any](w *maker, each func() T) []T {
	var l []T
	for range w.number(w.Intn(5)) {
		l = append(l, each())
	}
	return l
}

// inside puts a text of what is made in it.
func (w *maker) inside(make func()) {
	outer := w.out
	w.out = nil
	make()
	inner := w.out
	w.out = outer
	w.number(len(inner))
	w.out = append(w.out, inner...)
}

func (w *maker) locals() string {
	return strings.Join(several(w, func() string {
		many := w.number(w.Intn(4) * (1 + w.Intn(200)*w.Intn(2)))
		return strings.Repeat(string(rune(w.choice("\x7f\x7e"))), many)
	}), "")
}

func (w *maker) instr() api.Instr {
	i := api.Instr{Op: w.plain[w.Intn(len(w.plain))]}
	w.out = append(w.out, byte(i.Op))
	switch info, _ := op.Of(i.Op); info.Shape {
	case op.Label, op.Index:
		i.A = int64(w.word())
	case op.Labels:
		i.Labels = several(w, w.word)
		i.A = int64(w.word())
	case op.Memory:
		i.A = int64(w.word())
		i.B = int64(w.word())
	case op.Zero:
		w.put("\x00")
	case op.Const:
		i.A = w.signed(32 << (i.Op - 0x41))
	}
	return i
}

// code is some instructions, and an end.
func (w *maker) code(deep int, mayElse bool) []api.Instr {
	var l []api.Instr
	for range w.Intn(4) {
		if deep == 0 || w.Intn(3) > 0 {
			l = append(l, w.instr())
			continue
		}
		open := w.choice("\x02\x03\x04")
		l = append(l, api.Instr{Op: open, A: int64(w.choice("\x40\x7f\x7e"))})
		l = append(l, w.code(deep-1, open == 4)...)
	}
	if mayElse && w.Intn(2) == 0 {
		l = append(l, api.Instr{Op: w.choice("\x05")})
		return append(l, w.code(deep, false)...)
	}
	return append(l, api.Instr{Op: w.choice("\x0b")})
}

// section makes the section of a number, of which m holds nothing so far.
func (w *maker) section(n int, m *api.Module) {
	switch n {
	case 1:
		m.Types = several(w, func() api.FuncType {
			w.put("\x60")
			return api.FuncType{Params: w.text(9, "\x7f", "\x7e"), Results: w.text(1, "\x7f", "\x7e")}
		})
	case 3:
		m.Funcs = several(w, func() api.Func { return api.Func{Type: w.word()} })
	case 5:
		m.Memory = several(w, func() api.Memory {
			if w.choice("\x00\x01") == 0 {
				return api.Memory{Min: w.word(), Max: -1}
			}
			return api.Memory{Min: w.word(), Max: w.word()}
		})
	case 6:
		m.Globals = several(w, func() api.Global {
			g := api.Global{Type: w.choice("\x7f\x7e"), Mut: w.choice("\x00\x01") == 1}
			w.out = append(w.out, byte(65+127-g.Type))
			g.Init = w.signed(32 * (128 - g.Type))
			w.put("\x0b")
			return g
		})
	case 7:
		m.Exports = several(w, func() api.Export {
			return api.Export{Name: w.text(5, "a", "b ", "\x00", "\u00e9", "\u20ac", "\U0001f600"), Kind: w.choice("\x00\x02\x03"), Index: w.word()}
		})
	case 8:
		m.Start = w.word()
	case 10:
		w.number(len(m.Funcs))
		for k := range m.Funcs {
			w.inside(func() { m.Funcs[k].Locals, m.Funcs[k].Code = w.locals(), w.code(3, false) })
		}
	case 11:
		m.Data = several(w, func() api.Data {
			w.number(0)
			w.put("\x41")
			d := api.Data{Offset: int(w.signed(32))}
			w.put("\x0b")
			d.Bytes = w.text(5, "\x00", "\x0b", "\xff\x80", "ab")
			return d
		})
	}
}

// module makes one, and bytes of it.
func (w *maker) module() (api.Module, string) {
	m := api.Module{Start: -1}
	w.out = []byte("\x00asm\x01\x00\x00\x00")
	any := func() {
		for w.Intn(6) == 0 {
			w.put("\x00")
			w.inside(func() {
				w.text(4, "n", "\u00e9")
				w.put([]string{"", "\x00", "\xff\x0b", "\x01\x01\x00"}[w.Intn(4)])
			})
		}
	}
	for n := range 12 {
		any()
		if n == 0 || n == 2 || n == 4 || n == 9 || w.Intn(3) == 0 && (n != 10 || len(m.Funcs) == 0) {
			continue
		}
		w.out = append(w.out, byte(n))
		w.inside(func() { w.section(n, &m) })
	}
	any()
	return m, string(w.out)
}

// TestModuleAny: P6.2, P6.3: modules of all sorts, written in all ways: they are read as they were meant, are right, are written in no more bytes, and what was written is read as it was.
func TestModuleAny(t *testing.T) {
	w, other := newMaker(1), 0
	for range 5000 {
		want, s := w.module()
		m, e := dec.Module(s)
		if e != api.OK || !module.Same(m, want) || !module.Right(m) {
			t.Fatalf("Module(%x): %+v %d, not %+v", s, m, e, want)
		}
		short, e := enc.Module(m)
		if e != api.OK || len(short) > len(s) {
			t.Fatalf("%x: %x %d", s, short, e)
		}
		if back, e := dec.Module(short); e != api.OK || !module.Same(back, m) {
			t.Fatalf("Module(%x): %+v %d, not %+v", short, back, e, m)
		}
		if short != s {
			other++
		}
	}
	if other < 4000 {
		t.Error(other)
	}
}

// spoil changes some bytes of a text, takes some out, puts some in.
func (w *maker) spoil(s string) string {
	edges := "\x00\x01\x02\x03\x04\x05\x07\x08\x0a\x0b\x0e\x11\x20\x23\x40\x41\x42\x43\x44\x60\x6a\x7c\x7d\x7e\x7f\x80\x81\xff"
	for range 1 + w.Intn(3) {
		k := w.Intn(len(s))
		switch b := edges[w.Intn(len(edges))]; w.Intn(4) {
		case 0:
			s = s[:k] + string([]byte{b}) + s[k:]
		case 1:
			s = s[:k] + s[min(k+1+w.Intn(3), len(s)-1):]
		default:
			s = s[:k] + string([]byte{b}) + s[k+1:]
		}
	}
	return s
}

// TestModuleSpoilt: P6.2: what comes of modules that were spoilt is a module, or none, with the error of what is wrong first.
func TestModuleSpoilt(t *testing.T) {
	w, seen := newMaker(2), map[api.Errno]int{}
	for range 2000 {
		_, s := w.module()
		for range 30 {
			spoilt := w.spoil(s)
			e := like(t, spoilt)
			seen[e]++
			if e != api.OK {
				continue
			}
			m, _ := dec.Module(spoilt)
			if short, wrong := enc.Module(m); !module.Right(m) || wrong != api.OK || like(t, short) != api.OK {
				t.Fatalf("%x is a module, but not a right one: %+v", spoilt, m)
			}
		}
	}
	if seen[api.OK] < 2000 || seen[api.ErrForm] < 3000 || seen[api.ErrKind] < 1000 || seen[api.ErrType] < 20 || seen[api.ErrLong] < 100 {
		t.Error(seen)
	}
}
