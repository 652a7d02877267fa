package valid_test

import (
	"math/rand"
	"slices"
	"strings"
	"testing"

	"tuckmill/api"
	"tuckmill/op"
	"tuckmill/valid"
)

// path is a way through a function's code as it is run, on which each choice is one of chance. What stands on its stack are the types of values, all of which are there.
type path struct {
	t     *testing.T
	r     *rand.Rand
	m     api.Module
	f     api.Func
	at    int
	stack string
	open  []opened
}

// opened is a block on a path.
type opened struct {
	begin, behind, height int
	label, result         string
	loop                  bool
}

// match answers the places of the else (or -1) and the end of the block that is opened at a place; of the function at -1.
func match(code []api.Instr, at int) (other, end int) {
	other = -1
	count := 0
	for k := at + 1; ; k++ {
		switch code[k].Op {
		case 2, 3, 4:
			count++
		case 5:
			if count == 0 {
				other = k
			}
		case 11:
			if count == 0 {
				return other, k
			}
			count--
		}
	}
}

func (p *path) take(kinds string) {
	p.t.Helper()
	height := 0
	if len(p.open) > 0 {
		height = p.open[len(p.open)-1].height
	}
	below, ok := strings.CutSuffix(p.stack, kinds)
	if !ok || len(below) < height {
		p.t.Fatalf("at %d of %s: %x is taken from %x, of height %d", p.at, told(p.f.Code), kinds, p.stack, height)
	}
	p.stack = below
}

func (p *path) any() string {
	p.t.Helper()
	if p.stack == "" {
		p.t.Fatalf("at %d of %s: nothing is there", p.at, told(p.f.Code))
	}
	kind := p.stack[len(p.stack)-1:]
	p.take(kind)
	return kind
}

// enter opens a block that begins at a place; what is done first is what stands there now.
func (p *path) enter(begin int, i api.Instr) {
	_, end := match(p.f.Code, begin)
	b := opened{begin: begin, behind: end + 1, height: len(p.stack), label: kinds(i.A), result: kinds(i.A), loop: i.Op == 3}
	if b.loop {
		b.label = ""
	}
	p.open = append(p.open, b)
}

// branch goes to a label; it tells whether that is behind the function.
func (p *path) branch(n int) bool {
	p.t.Helper()
	b := p.open[len(p.open)-1-n]
	p.take(b.label)
	p.stack = p.stack[:b.height] + b.label
	p.open = p.open[:len(p.open)-1-n]
	p.at = b.behind
	if b.loop {
		p.open = append(p.open, b)
		p.at = b.begin + 1
	}
	return len(p.open) == 0
}

// end closes the innermost block, where its code ends.
func (p *path) end() bool {
	p.t.Helper()
	b := p.open[len(p.open)-1]
	if p.stack[b.height:] != b.result {
		p.t.Fatalf("at %d of %s: %x is left, not %x", p.at, told(p.f.Code), p.stack[b.height:], b.result)
	}
	p.open = p.open[:len(p.open)-1]
	p.at = b.behind
	return len(p.open) == 0
}

// step does one instruction; it tells whether the function has come to its end, or whether the path breaks off.
func (p *path) step() (done, off bool) {
	p.t.Helper()
	i := p.f.Code[p.at]
	info, _ := op.Of(i.Op)
	p.at++
	switch info.Name {
	case "unreachable":
		return false, true
	case "block", "loop":
		p.enter(p.at-1, i)
	case "if":
		p.take("\x7f")
		p.enter(p.at-1, i)
		if other, end := match(p.f.Code, p.at-1); p.r.Intn(2) == 0 {
			p.at = max(other+1, p.at)
			if other < 0 {
				p.at = end
			}
		}
	case "else":
		return p.end(), false
	case "end":
		return p.end(), false
	case "br":
		return p.branch(int(i.A)), false
	case "br_if":
		p.take("\x7f")
		if p.r.Intn(2) == 0 {
			return p.branch(int(i.A)), false
		}
		kind := p.open[len(p.open)-1-int(i.A)].label
		p.take(kind)
		p.stack += kind
	case "br_table":
		p.take("\x7f")
		l := append(slices.Clone(i.Labels), int(i.A))
		return p.branch(l[p.r.Intn(len(l))]), false
	case "return":
		return p.branch(len(p.open) - 1), false
	default:
		p.plain(i, info)
	}
	return false, false
}

func (p *path) plain(i api.Instr, info op.Info) {
	p.t.Helper()
	all := p.m.Types[p.f.Type].Params + p.f.Locals
	switch info.Name {
	case "call":
		t := p.m.Types[p.m.Funcs[i.A].Type]
		p.take(t.Params)
		p.stack += t.Results
	case "drop":
		p.any()
	case "select":
		p.take("\x7f")
		kind := p.any()
		p.take(kind)
		p.stack += kind
	case "local.get":
		p.stack += all[i.A : i.A+1]
	case "local.set":
		p.take(all[i.A : i.A+1])
	case "local.tee":
		p.take(all[i.A : i.A+1])
		p.stack += all[i.A : i.A+1]
	case "global.get":
		p.stack += kinds(int64(p.m.Globals[i.A].Type))
	case "global.set":
		p.take(kinds(int64(p.m.Globals[i.A].Type)))
	default:
		p.take(info.Params)
		p.stack += info.Results
	}
}

// walk goes on for so many steps at most; it tells whether the function came to its end.
func (p *path) walk(steps int) bool {
	p.t.Helper()
	result := p.m.Types[p.f.Type].Results
	p.open = []opened{{begin: -1, behind: len(p.f.Code), label: result, result: result}}
	for range steps {
		done, off := p.step()
		if done {
			if p.stack != result {
				p.t.Fatalf("%s: %x is left, not %x", told(p.f.Code), p.stack, result)
			}
			return true
		}
		if off {
			return false
		}
	}
	return false
}

// TestPaths: P7.4: whichever way a valid function goes, what an instruction takes is there, and of the type that it takes; and in the end just the Results are.
func TestPaths(t *testing.T) {
	t.Parallel()
	fits, ended := 0, 0
	for seed := range int64(6000) {
		k := newMaker(seed)
		f := k.whole()
		for range 4 {
			if valid.Func(k.m, f) == api.OK {
				fits++
				for range 8 {
					if p := (&path{t: t, r: k.r, m: k.m, f: f}); p.walk(300) {
						ended++
					}
				}
			}
			f = k.spoil(f)
		}
	}
	t.Logf("%d functions, which ended %d times", fits, ended)
	if fits < 5000 || ended < 20000 {
		t.Error(fits, ended)
	}
}
