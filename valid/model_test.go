package valid_test

import (
	"math/rand"
	"slices"
	"strings"
	"testing"

	"tuckmill/api"
	"tuckmill/module"
	"tuckmill/op"
	"tuckmill/valid"
)

// model goes through code as chapter 7 says, but by calls in one another: each block has a stack of its own, so that there are no heights. What is wrong is a panic.
type model struct {
	m    api.Module
	f    api.Func
	code []api.Instr // what is left of it
}

// wrong is what a model's panics tell.
type wrong struct{}

func must(so bool) {
	if !so {
		panic(wrong{})
	}
}

// modelled tells whether a function, which is Right and not too deep, is valid in m.
func modelled(m api.Module, f api.Func) (ok bool) {
	defer func() {
		switch r := recover().(type) {
		case nil, wrong:
		default:
			panic(r)
		}
	}()
	must(f.Type < len(m.Types))
	l := &model{m, f, f.Code}
	l.body(nil, m.Types[f.Type].Results, false)
	return true
}

// pile is a block's stack; ? is a type that is unknown.
type pile struct {
	has  string
	dead bool
}

func (p *pile) take(kinds string) {
	for k := range kinds {
		t := p.any()
		must(t == '?' || t == kinds[len(kinds)-1-k])
	}
}

func (p *pile) any() byte {
	if p.has == "" {
		must(p.dead)
		return '?'
	}
	t := p.has[len(p.has)-1]
	p.has = p.has[:len(p.has)-1]
	return t
}

// kinds is what a block's A answers.
func kinds(a int64) string { return map[int64]string{64: "", 127: "\x7f", 126: "\x7e"}[a] }

// body goes on to a block's end, or its else, which it tells; labels are those of the blocks around it, the innermost last.
func (l *model) body(labels []string, result string, isLoop bool) int {
	if isLoop {
		labels = append(slices.Clone(labels), "")
	} else {
		labels = append(slices.Clone(labels), result)
	}
	p := &pile{}
	for {
		i := l.code[0]
		l.code = l.code[1:]
		switch i.Op {
		case 0x05, 0x0b:
			p.take(result)
			must(p.has == "")
			return i.Op
		case 0x02, 0x03:
			l.body(labels, kinds(i.A), i.Op == 3)
			p.has += kinds(i.A)
		case 0x04:
			p.take("\x7f")
			if l.body(labels, kinds(i.A), false) == 0x05 {
				l.body(labels, kinds(i.A), false)
			} else {
				must(i.A == 64)
			}
			p.has += kinds(i.A)
		default:
			l.one(p, i, labels)
		}
	}
}

// one is an instruction that opens and closes nothing.
func (l *model) one(p *pile, i api.Instr, labels []string) {
	label := func(n int64) string {
		must(n < int64(len(labels)))
		return labels[int64(len(labels))-1-n]
	}
	all := l.m.Types[l.f.Type].Params + l.f.Locals
	info, _ := op.Of(i.Op)
	switch info.Name {
	case "unreachable":
		*p = pile{"", true}
	case "br":
		p.take(label(i.A))
		*p = pile{"", true}
	case "br_if":
		p.take(label(i.A) + "\x7f")
		p.has += label(i.A)
	case "br_table":
		for _, n := range i.Labels {
			must(label(int64(n)) == label(i.A))
		}
		p.take(label(i.A) + "\x7f")
		*p = pile{"", true}
	case "return":
		p.take(labels[0])
		*p = pile{"", true}
	case "call":
		must(i.A < int64(len(l.m.Funcs)) && l.m.Funcs[i.A].Type >= 0 && l.m.Funcs[i.A].Type < len(l.m.Types))
		t := l.m.Types[l.m.Funcs[i.A].Type]
		p.take(t.Params)
		p.has += t.Results
	case "drop":
		p.any()
	case "select":
		p.take("\x7f")
		pair := string([]byte{p.any(), p.any()})
		must(!strings.Contains(pair, "\x7f") || !strings.Contains(pair, "\x7e"))
		p.has += (strings.ReplaceAll(pair, "?", "") + "?")[:1]
	case "local.get", "local.set", "local.tee":
		must(i.A < int64(len(all)))
		if i.Op != 0x20 {
			p.take(all[i.A : i.A+1])
		}
		if i.Op != 0x21 {
			p.has += all[i.A : i.A+1]
		}
	case "global.get", "global.set":
		must(i.A < int64(len(l.m.Globals)))
		g := l.m.Globals[i.A]
		if i.Op == 0x23 {
			p.has += kinds(int64(g.Type))
		} else {
			must(g.Mut)
			p.take(kinds(int64(g.Type)))
		}
	default:
		must(info.Shape != op.Memory && info.Shape != op.Zero || len(l.m.Memory) > 0 && 1<<i.A <= bytesOf(info))
		p.take(info.Params)
		p.has += info.Results
	}
}

// bytesOf is how many bytes an instruction of memory loads or stores, as its name tells; 1, if it is memory.size or memory.grow.
func bytesOf(info op.Info) int {
	kind, what, _ := strings.Cut(info.Name, ".")
	for bits, n := range map[string]int{"8": 1, "16": 2, "32": 4} {
		if strings.Contains(what, bits) {
			return n
		}
	}
	return map[string]int{"i32": 4, "i64": 8, "memory": 1}[kind]
}

// held fails, if Func and the model do not say the same of a function; it tells what they say.
func held(t *testing.T, m api.Module, f api.Func) bool {
	t.Helper()
	want := api.ErrType
	if modelled(m, f) {
		want = api.OK
	}
	if e := valid.Func(m, f); e != want {
		t.Errorf("Func: %d, not %d, of type %d, locals %x, %s", e, want, f.Type, f.Locals, told(f.Code))
	}
	return want == api.OK
}

func told(code []api.Instr) string {
	var l []string
	for _, i := range code {
		s, _ := module.Text(i)
		l = append(l, s)
	}
	return strings.Join(l, "; ")
}

// every hands over all code of up to so many instructions of these, with what closes its blocks beside them.
func every(many int, some []api.Instr, each func(code []api.Instr)) {
	var grow func(code []api.Instr, left int, open []int)
	grow = func(code []api.Instr, left int, open []int) {
		shut := slices.Repeat([]api.Instr{{Op: 0x0b}}, len(open)+1)
		each(append(slices.Clip(code), shut...))
		if left == 0 {
			return
		}
		for _, i := range some {
			next, in := append(slices.Clip(code), i), slices.Clip(open)
			switch last := len(open) - 1; i.Op {
			case 2, 3, 4:
				in = append(in, i.Op)
			case 5:
				if last < 0 || open[last] != 4 {
					continue
				}
				in = append(in[:last:last], 5)
			case 11:
				if last < 0 {
					continue
				}
				in = in[:last]
			}
			grow(next, left-1, in)
		}
	}
	grow(nil, many, nil)
}

// TestEvery: P7.2: all short code of instructions that stand for the others, in functions of several types.
func TestEvery(t *testing.T) {
	t.Parallel()
	m := world()
	for many, texts := range map[int]string{
		3: "unreachable; block; block i32; block i64; loop; loop i32; if; if i32; if i64; else; end; br 0; br 1; br_if 0; br_if 1; br_table 0; br_table 0 1; br_table 1 0 1; return; call 1; call 3; call 4; drop; select; local.get 0; local.get 1; local.set 0; local.tee 1; global.get 1; global.set 0; i32.load 2; i64.store 3; memory.size; i32.const 1; i64.const 1; i32.add; i64.eqz",
		5: "unreachable; block i32; loop i32; if i32; else; end; br 0; br_if 0; br_table 0 1; drop; select; i32.const 1; i64.const 1",
		6: "unreachable; if i32; if; else; end; br 1; i32.const 1; select",
	} {
		var some []api.Instr
		for _, text := range strings.Split(texts, ";") {
			some = append(some, code(t, text)[0])
		}
		fits, all := 0, 0
		every(many, some, func(code []api.Instr) {
			for _, kind := range []int{nn, ilL, ni} {
				if many > 3 && kind == ilL || many > 5 && kind == nn {
					continue
				}
				all++
				if held(t, m, api.Func{Type: kind, Locals: "\x7f\x7e", Code: code}) {
					fits++
				}
			}
		})
		t.Logf("up to %d: %d, of which %d are valid", many, all, fits)
		if fits < 1000 || all-fits < 1000 {
			t.Errorf("up to %d: %d, of which %d are valid", many, all, fits)
		}
	}
}

// maker makes code by chance, which is mostly valid: of the types that it knows to stand in the innermost block it mostly takes what fits.
type maker struct {
	r     *rand.Rand
	m     api.Module
	f     api.Func
	plain []int
}

func newMaker(seed int64) *maker {
	r := rand.New(rand.NewSource(seed))
	k := &maker{r: r, m: world(), plain: reckoned()}
	k.f = api.Func{Type: r.Intn(len(k.m.Types)), Locals: []string{"", "\x7f", "\x7e\x7f", "\x7f\x7e\x7f\x7e"}[r.Intn(4)]}
	return k
}

func (k *maker) put(code int, a int64, labels ...int) {
	k.f.Code = append(k.f.Code, api.Instr{Op: code, A: a, Labels: labels})
}

// whole makes a function.
func (k *maker) whole() api.Func {
	result := k.m.Types[k.f.Type].Results
	k.block([]string{result}, result, 4)
	k.put(0x0b, 0)
	return k.f
}

// block makes what stands in a block, but for its end. (labels: the innermost one last.)
func (k *maker) block(labels []string, result string, deep int) {
	has := ""
	for range k.r.Intn(9) {
		var dead bool
		has, dead = k.some(labels, has, deep)
		if dead {
			for k.r.Intn(2) == 0 { // mostly what is dead goes on
				has, _ = k.some(labels, has, deep)
			}
			if k.r.Intn(2) == 0 && has == "" {
				return
			}
		}
	}
	k.leave(has, result)
}

// leave makes the end of a block of what stands there: just the result.
func (k *maker) leave(has, result string) {
	for has != result && has != "" {
		k.put(0x1a, 0)
		has = has[:len(has)-1]
	}
	if has != result {
		k.want(result)
	}
}

// want makes values of these types.
func (k *maker) want(kinds string) {
	all := k.m.Types[k.f.Type].Params + k.f.Locals
	for _, kind := range []byte(kinds) {
		if n := k.r.Intn(len(all) + 2); n < len(all) && all[n] == kind {
			k.put(0x20, int64(n))
		} else {
			k.put(0x41+0x7f-int(kind), int64(k.r.Intn(9)-4))
		}
	}
}

// fill makes what is missing for these to stand on top, and answers what stands below them.
func (k *maker) fill(has, kinds string) string {
	for n := range len(kinds) + 1 { // the more there is already, the better
		if below, ok := strings.CutSuffix(has, kinds[:len(kinds)-n]); ok {
			k.want(kinds[len(kinds)-n:])
			return below
		}
	}
	return has
}

// some makes an instruction or more, where these stand; it answers what stands then, and whether the way is dead.
func (k *maker) some(labels []string, has string, deep int) (string, bool) {
	n := int64(k.r.Intn(len(labels)))
	kind := labels[len(labels)-1-int(n)]
	switch k.r.Intn(16) {
	case 0:
		k.put(0x00, 0)
		return "", true
	case 1:
		k.fill(has, kind)
		k.put(0x0c, n)
		return "", true
	case 2:
		has = k.fill(has, kind+"\x7f")
		k.put(0x0d, n)
		return has + kind, false
	case 3:
		k.fill(has, kind+"\x7f")
		var same []int
		for l := range labels {
			if labels[len(labels)-1-l] == kind && k.r.Intn(2) == 0 {
				same = append(same, l)
			}
		}
		k.put(0x0e, n, same...)
		return "", true
	case 4:
		k.fill(has, labels[0])
		k.put(0x0f, 0)
		return "", true
	case 5, 6, 7:
		if deep > 0 {
			return k.nest(labels, has, deep-1), false
		}
	case 8:
		n := k.r.Intn(len(k.m.Funcs))
		has = k.fill(has, k.m.Types[n].Params)
		k.put(0x10, int64(n))
		return has + k.m.Types[n].Results, false
	case 9:
		one := []string{"\x7f", "\x7e"}[k.r.Intn(2)]
		has = k.fill(has, one+one+"\x7f")
		k.put(0x1b, 0)
		return has + one, false
	case 10, 11:
		return k.variable(has), false
	}
	c := k.plain[k.r.Intn(len(k.plain))]
	info, _ := op.Of(c)
	has = k.fill(has, info.Params)
	k.put(c, 0)
	return has + info.Results, false
}

// nest makes a block, a loop or an if.
func (k *maker) nest(labels []string, has string, deep int) string {
	opener, result := 2+k.r.Intn(3), []string{"", "\x7f", "\x7e"}[k.r.Intn(3)]
	label := result
	if opener == 3 {
		label = ""
	}
	if opener == 4 {
		has = k.fill(has, "\x7f")
	}
	inner := append(slices.Clip(labels), label)
	k.put(opener, map[string]int64{"": 64, "\x7f": 127, "\x7e": 126}[result])
	k.block(inner, result, deep)
	if opener == 4 && (result != "" || k.r.Intn(2) == 0) {
		k.put(0x05, 0)
		k.block(inner, result, deep)
	}
	k.put(0x0b, 0)
	return has + result
}

// variable makes something that is done with a local, or with a global.
func (k *maker) variable(has string) string {
	all := k.m.Types[k.f.Type].Params + k.f.Locals
	if len(all) > 0 && k.r.Intn(2) == 0 {
		n := k.r.Intn(len(all))
		c := 0x20 + k.r.Intn(3)
		if c > 0x20 {
			has = k.fill(has, all[n:n+1])
		}
		k.put(c, int64(n))
		if c != 0x21 {
			has += all[n : n+1]
		}
		return has
	}
	n := k.r.Intn(len(k.m.Globals))
	g := k.m.Globals[n]
	if g.Mut && k.r.Intn(2) == 0 {
		has = k.fill(has, kinds(int64(g.Type)))
		k.put(0x24, int64(n))
		return has
	}
	k.put(0x23, int64(n))
	return has + kinds(int64(g.Type))
}

// spoil changes one instruction, takes one away, or puts another one in, but for what opens and closes blocks.
func (k *maker) spoil(f api.Func) api.Func {
	f.Code = slices.Clone(f.Code)
	at := k.r.Intn(len(f.Code))
	i := f.Code[at]
	fixed := i.Op == 5 || i.Op == 11
	codes := slices.Concat(k.plain, []int{0x00, 0x0c, 0x0d, 0x0e, 0x0f, 0x10, 0x1a, 0x1b, 0x20, 0x21, 0x22, 0x23, 0x24})
	another := api.Instr{Op: codes[k.r.Intn(len(codes))]}
	info, _ := op.Of(another.Op)
	if slices.Contains([]int{op.Label, op.Labels, op.Index, op.Memory}, info.Shape) {
		another.A = int64(k.r.Intn(5))
	}
	switch {
	case i.Op >= 2 && i.Op <= 4:
		f.Code[at].A = []int64{64, 127, 126}[k.r.Intn(3)]
	case fixed || k.r.Intn(3) == 0:
		f.Code = slices.Insert(f.Code, at, another)
	case k.r.Intn(2) == 0:
		f.Code = slices.Delete(f.Code, at, at+1)
	default:
		f.Code[at] = another
	}
	return f
}

// TestMade: P7.2: code made by chance, and spoilt.
func TestMade(t *testing.T) {
	t.Parallel()
	fits, all, long := 0, 0, 0
	for seed := range int64(6000) {
		k := newMaker(seed)
		f := k.whole()
		for range 6 {
			all++
			long = max(long, len(f.Code))
			if held(t, k.m, f) {
				fits++
			}
			f = k.spoil(f)
		}
	}
	t.Logf("%d, of which %d are valid; the longest has %d instructions", all, fits, long)
	if fits < all/5 || fits > all*4/5 || long < 100 {
		t.Error(fits, all, long)
	}
}

// TestMadeModule: P7.3: a module is valid, if all its functions are.
func TestMadeModule(t *testing.T) {
	t.Parallel()
	fits := 0
	for seed := range int64(1000) {
		k := newMaker(seed)
		m := k.m
		if k.f = (api.Func{Type: nn}); seed%2 == 0 {
			m.Funcs = append(m.Funcs, k.whole())
		} else {
			m.Funcs = append(m.Funcs, k.spoil(k.whole()))
		}
		want := api.OK
		for _, f := range m.Funcs {
			if !modelled(m, f) {
				want = api.ErrType
			}
		}
		if want == api.OK {
			fits++
		}
		if e := valid.Module(m); e != want {
			t.Errorf("%d, not %d, with %s", e, want, told(m.Funcs[len(m.Funcs)-1].Code))
		}
	}
	if fits < 250 || fits > 750 {
		t.Error(fits)
	}
}
