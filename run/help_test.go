package run_test

import (
	"slices"
	"strconv"
	"strings"
	"testing"

	"tuckmill/api"
	"tuckmill/mem"
	"tuckmill/module"
	"tuckmill/op"
	"tuckmill/run"
)

const page = 65536

// code makes instructions out of a text: they are parted by semicolons; behind each name stand its numbers, of br_table the labels, the last of them A, of memory the alignment and the offset; of a block i32, i64 or nothing. The function's end is put behind them.
func code(t testing.TB, text string) []api.Instr {
	t.Helper()
	var l []api.Instr
	for line := range strings.SplitSeq(text+"; end", ";") {
		if words := strings.Fields(line); len(words) > 0 {
			l = append(l, instr(t, words[0], words[1:]))
		}
	}
	return l
}

func instr(t testing.TB, name string, words []string) api.Instr {
	t.Helper()
	c, ok := op.Code(name)
	if !ok {
		t.Fatal(name)
	}
	i := api.Instr{Op: c}
	info, _ := op.Of(c)
	if info.Shape == op.Block {
		i.A = map[string]int64{"": 64, "i32": 127, "i64": 126}[strings.Join(words, " ")]
		return i
	}
	var l []int64
	for _, w := range words {
		n, err := strconv.ParseInt(w, 0, 64)
		if err != nil {
			t.Fatal(name, err)
		}
		l = append(l, n)
	}
	for info.Shape == op.Labels && len(l) > 1 {
		i.Labels, l = append(i.Labels, int(l[0])), l[1:]
	}
	if len(l) > 0 {
		i.A = l[0]
	}
	if len(l) > 1 {
		i.B = l[1]
	}
	if !op.Right(i) {
		t.Fatal(name, words)
	}
	return i
}

func told(code []api.Instr) string {
	var l []string
	for _, i := range code {
		s, _ := module.Text(i)
		l = append(l, s)
	}
	return strings.Join(l, "; ")
}

// kinds makes value types out of a text: i is an i32, l an i64.
func kinds(s string) string { return strings.NewReplacer("i", "\x7f", "l", "\x7e").Replace(s) }

// with is a module with one more function, the type of which is a text such as il>l.
func with(t testing.TB, m api.Module, kind, locals, text string) api.Module {
	t.Helper()
	takes, answers, ok := strings.Cut(kind, ">")
	if !ok {
		t.Fatal(kind)
	}
	m.Types = append(slices.Clip(m.Types), api.FuncType{Params: kinds(takes), Results: kinds(answers)})
	m.Funcs = append(slices.Clip(m.Funcs), api.Func{Type: len(m.Types) - 1, Locals: kinds(locals), Code: code(t, text)})
	return m
}

// alone is a module of nothing but a function.
func alone(t testing.TB, kind, locals, text string) api.Module {
	t.Helper()
	return with(t, api.Module{Start: -1}, kind, locals, text)
}

// made is a machine that is made of a module that there may be.
func made(t testing.TB, m api.Module) *run.Machine {
	t.Helper()
	r, e := run.New(m)
	if e != api.OK || r == nil {
		t.Fatalf("New: %v, %d", r != nil, e)
	}
	return r
}

// whole is all that stands in a memory; nothing, if there is none.
func whole(t testing.TB, y *mem.Memory) string {
	t.Helper()
	if y == nil {
		return ""
	}
	s, ok := y.Bytes(0, y.Pages()*page)
	if !ok {
		t.Fatal("Bytes of all that stands there")
	}
	return s
}

// globals are all that there are.
func globals(r *run.Machine) []uint64 {
	var l []uint64
	for n := 0; ; n++ {
		g, ok := r.Global(n)
		if !ok {
			return l
		}
		l = append(l, g)
	}
}

// calls fails, if a Call does not answer so.
func calls(t testing.TB, r *run.Machine, f int, args []uint64, fuel int, want []uint64, left int, e api.Errno) {
	t.Helper()
	got, rest, err := r.Call(f, args, fuel)
	if !slices.Equal(got, want) || rest != left || err != e {
		t.Errorf("Call(%d, %x, %d): %x, %d, %d, not %x, %d, %d", f, args, fuel, got, rest, err, want, left, e)
	}
}
