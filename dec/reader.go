package dec

import (
	"tuckmill/api"
	"tuckmill/leb"
	"tuckmill/module"
)

// reader reads a text from front to back. What is wrong first stays told: what is read behind it is of no account, so that it need not be asked at each step whether something was wrong, but in what goes round.
type reader struct {
	s     string // it ends where what is being read has to end
	at    int    // never behind that end
	e     api.Errno
	infos infos
}

func newReader(s string, at int) reader { return reader{s: s, at: at, infos: infos{}} }

func (r *reader) fail(e api.Errno) {
	if r.e == api.OK {
		r.e = e
	}
}

// one reads a byte.
func (r *reader) one() byte {
	if r.at == len(r.s) {
		r.fail(api.ErrForm)
		return 0
	}
	r.at++
	return r.s[r.at-1]
}

// is reads a byte that has to be this one.
func (r *reader) is(b byte) {
	if r.one() != b {
		r.fail(api.ErrForm)
	}
}

// taken reads a number by one of leb's calls.
func taken[N uint32 | int32 | int64](r *reader, read func(s string, at int) (N, int, api.Errno)) N {
	n, next, e := read(r.s, r.at)
	if e != api.OK {
		r.fail(e)
		return 0
	}
	r.at = next
	return n
}

func (r *reader) number() int { return int(taken(r, leb.U32)) }

// list reads how many things there are, and they.
func list[T any](r *reader, each func(r *reader) T) []T {
	many := r.number()
	if many > api.MaxList {
		r.fail(api.ErrLong)
	}
	var l []T
	for range many {
		if r.e != api.OK {
			return nil
		}
		l = append(l, each(r))
	}
	return l
}

// text reads how many bytes there are, and they: a piece of what is read, which is copied where an answer is to hold it.
func (r *reader) text() string {
	many := r.number()
	if many > len(r.s)-r.at {
		r.fail(api.ErrForm)
		return ""
	}
	r.at += many
	return r.s[r.at-many : r.at]
}

// whole reads a text, of which what is read in it has to leave nothing.
func (r *reader) whole(read func()) {
	inner, outer := r.text(), r.s
	r.s, r.at = outer[:r.at], r.at-len(inner)
	read()
	if r.at < len(r.s) {
		r.fail(api.ErrForm)
	}
	r.s = outer
}

func (r *reader) name() string {
	s := r.text()
	if !module.Name(s) {
		r.fail(api.ErrForm)
	}
	return s
}
